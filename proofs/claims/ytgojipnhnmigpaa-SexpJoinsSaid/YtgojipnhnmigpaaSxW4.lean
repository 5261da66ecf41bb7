/-
  Layer 8: the walk: what is so all the way.
-/
import Derived.Test.YtgojipnhnmigpaaSxW3
import Derived.Test.YtgojipnhnmigpaaSxE
set_option linter.unusedVariables false
set_option linter.unusedSimpArgs false
namespace Go.Proofs.Ytgojipnhnmigpaa
open Go.RowKit Sx

/-- Each step is at the list that the next one goes through. -/
inductive Way8 (root : Fo) : List Sp → Prop
  | one {s : Sp} : s.k = root → Way8 root [s]
  | cons {s r : Sp} {l : List Sp} {t : Tk} : r.k.at? r.i = some (true, t, s.k) → Way8 root (r :: l) → Way8 root (s :: r :: l)
namespace Way8
variable {root : Fo} {s : Sp} {l : List Sp}
theorem deep : ∀ {l : List Sp} {s : Sp}, Way8 root (s :: l) → l.length + s.k.deep ≤ root.deep
  | [], s, h => by cases h with | one h => rw [h]; simp
  | r :: l, s, h => by
    cases h with
    | cons h1 h2 =>
      have h3 := deep h2
      have h4 := Fo.at_deep h1
      simp at h4
      simp only [List.length_cons]
      omega
theorem size : ∀ {l : List Sp} {s : Sp}, Way8 root (s :: l) → ∀ x ∈ s :: l, s.k.size ≤ x.k.size
  | [], s, h => by intro x hx; simp at hx; subst hx; exact Nat.le_refl _
  | r :: l, s, h => by
    cases h with
    | cons h1 h2 =>
      have h3 := size h2
      have h4 := Fo.at_size h1
      intro x hx
      rcases List.mem_cons.1 hx with rfl | hx
      · exact Nat.le_refl _
      · have := h3 x hx
        omega
theorem turn {s' : Sp} (h : Way8 root (s :: l)) (hk : s'.k = s.k) : Way8 root (s' :: l) := by
  cases h with
  | one h => exact .one (hk.trans h)
  | cons h1 h2 => exact .cons (by rw [hk]; exact h1) h2
end Way8
/-- What is left to do. -/
def mesR : List Sp → Nat
  | [] => 0
  | s :: r => s.k.workAt (s.i + 1) + 2 + mesR r
def mes8 : List Sp → Nat
  | [] => 0
  | s :: r => s.k.workAt s.i + 1 + mesR r
def big8 : Int := 9223372036854775807
/-- What is so all the way. -/
structure Good8 (B R m : Nat) (W : World) (root : Fo) (path : List Sp) (M : List ((Nat × Nat) × Int)) : Prop where
  way : Way8 root path
  done : ∀ s ∈ path, s.i ≤ s.k.len ∧ s.d = s.k.deepTo s.i ∧ 0 < s.k.len
  known : ∀ g n d, look M (g, n) = some d → ∃ k c, SlAt W (Old B R m) (.slice (some ⟨g, 0, none⟩) n c) k ∧ 0 < n ∧ (d = (k.deep : Int) ∨ d = 9223372036854775807 ∧ ∃ s ∈ path, ∃ c, s.v = .slice (some ⟨g, 0, none⟩) n c ∧ s.k = k)
section
variable {B R m : Nat} {W W' : World} {root : Fo} {path : List Sp} {M : List ((Nat × Nat) × Int)} {s : Sp}
theorem SlAt.one_thing {F G : Nat → Prop} {g n c c' : Nat} {k k' : Fo} (h : SlAt W F (.slice (some ⟨g, 0, none⟩) n c) k) (h' : SlAt W G (.slice (some ⟨g, 0, none⟩) n c') k') : k = k' := by
  obtain ⟨a, e, D, h0, h2, h3, h4, h5, h6⟩ := h
  obtain ⟨a', e', D', h0', h2', h3', h4', h5', h6'⟩ := h'
  cases h0
  simp only [Value.slice.injEq] at h0'
  obtain ⟨rfl, hl, rfl⟩ := h0'
  rcases h5 with h5 | ⟨x, cur, ea, _, hb, hd⟩
  · rw [Fo.len_zero h5, Fo.len_zero (by omega : k'.len = 0)]
  · rcases h5' with h5' | ⟨x', cur', ea', _, hb', hd'⟩
    · rw [Fo.len_zero (by omega : k.len = 0), Fo.len_zero h5']
    · cases ea
      cases ea'
      rw [hb] at hb'
      cases hb'
      rw [← hl, hd] at hd'
      subst hd'
      exact h6.same h6'
theorem Good8.turn (h : Good8 B R m W root path M) (hc : Chg (Own8 B R m) W W') : Good8 B R m W' root path M :=
  ⟨h.way, h.done, fun g n d hd => by
    obtain ⟨k, c, h1, h2, h3⟩ := h.known g n d hd
    exact ⟨k, c, h1.turn hc (fun _ h _ => old_own h) (fun _ h _ => h), h2, h3⟩⟩
/-- A kid is done. -/
theorem Good8.put (h : Good8 B R m W root (s :: path) M) {l : Bool} {t : Tk} {k : Fo} (ha : s.k.at? s.i = some (l, t, k)) {d : Nat} (hd : d = if l then k.deep + 1 else 0) :
    Good8 B R m W root (⟨s.v, s.k, s.i + 1, max s.d d⟩ :: path) M ∧ mes8 (⟨s.v, s.k, s.i + 1, max s.d d⟩ :: path) < mes8 (s :: path) := by
  have hlt : s.i < s.k.len := by
    apply Nat.lt_of_not_le
    intro hle
    have : ∀ (x : Fo) (i : Nat), x.len ≤ i → x.at? i = none := by
      intro x
      induction x with
      | nil => intro i _; rfl
      | cons l t k r _ ih =>
        intro i hi
        cases i with
        | zero => simp [Fo.len] at hi
        | succ i => exact ih i (by simpa [Fo.len] using hi)
    rw [this _ _ hle] at ha
    cases ha
  refine ⟨⟨h.way.turn rfl, fun x hx => ?_, fun g n d' hd' => ?_⟩, ?_⟩
  · rcases List.mem_cons.1 hx with rfl | hx
    · refine ⟨hlt, ?_, (h.done s (by simp)).2.2⟩
      show max s.d d = s.k.deepTo (s.i + 1)
      rw [Fo.deepTo_succ ha, (h.done s (by simp)).2.1, hd]
    · exact h.done x (by simp [hx])
  · obtain ⟨k', c, h1, h2, h3⟩ := h.known g n d' hd'
    refine ⟨k', c, h1, h2, h3.imp id fun ⟨e, x, hx, c', q1, q2⟩ => ⟨e, ?_⟩⟩
    rcases List.mem_cons.1 hx with rfl | hx
    · exact ⟨_, List.mem_cons_self, c', q1, q2⟩
    · exact ⟨x, List.mem_cons_of_mem _ hx, c', q1, q2⟩
  · have := Fo.workAt_succ ha
    simp only [mes8]
    omega
/-- A list is begun. -/
theorem Good8.enter (h : Good8 B R m W root (s :: path) M) {t : Tk} {k : Fo} (ha : s.k.at? s.i = some (true, t, k)) {g n c : Nat} (hs : SlAt W (Old B R m) (.slice (some ⟨g, 0, none⟩) n c) k) (hn : 0 < n) :
    Good8 B R m W root (⟨.slice (some ⟨g, 0, none⟩) n c, k, 0, 0⟩ :: s :: path) (upd M (g, n) 9223372036854775807) ∧ mes8 (⟨.slice (some ⟨g, 0, none⟩) n c, k, 0, 0⟩ :: s :: path) < mes8 (s :: path) := by
  refine ⟨⟨.cons ha h.way, fun x hx => ?_, fun g' n' d' hd' => ?_⟩, ?_⟩
  · rcases List.mem_cons.1 hx with rfl | hx
    · exact ⟨Nat.zero_le _, (Fo.deepTo_zero k).symm, by have := (hs.blk hn).2.2; show 0 < k.len; omega⟩
    · exact h.done x hx
  · by_cases hp : (g', n') = (g, n)
    · cases hp
      rw [look_upd] at hd'
      cases hd'
      exact ⟨k, c, hs, hn, .inr ⟨rfl, _, List.mem_cons_self, c, rfl, rfl⟩⟩
    · rw [look_other _ _ _ _ hp] at hd'
      obtain ⟨k', c', h1, h2, h3⟩ := h.known g' n' d' hd'
      exact ⟨k', c', h1, h2, h3.imp id fun ⟨e, x, hx, q⟩ => ⟨e, x, List.mem_cons_of_mem _ hx, q⟩⟩
  · have := Fo.workAt_succ ha
    simp only [mes8, mesR, Fo.workAt_zero]
    omega
/-- A list is done. -/
theorem Good8.leave {g n c : Nat} {k : Fo} {i d : Nat} {r : Sp} (h : Good8 B R m W root (⟨.slice (some ⟨g, 0, none⟩) n c, k, i, d⟩ :: r :: path) M) (hs : SlAt W (Old B R m) (.slice (some ⟨g, 0, none⟩) n c) k) (hn : 0 < n) (hi : i = k.len) :
    d = k.deep ∧ Good8 B R m W root (⟨r.v, r.k, r.i + 1, max r.d (d + 1)⟩ :: path) (upd M (g, n) (d : Int)) ∧ mes8 (⟨r.v, r.k, r.i + 1, max r.d (d + 1)⟩ :: path) < mes8 (⟨.slice (some ⟨g, 0, none⟩) n c, k, i, d⟩ :: r :: path) := by
  have hd : d = k.deep := by
    have := (h.done _ List.mem_cons_self).2.1
    dsimp only at this
    rw [this, hi, Fo.deepTo_len]
  have hw := h.way
  cases hw with
  | cons h1 h2 =>
    have h0 : Good8 B R m W root (r :: path) (upd M (g, n) (d : Int)) := by
      refine ⟨h2, fun x hx => h.done x (List.mem_cons_of_mem _ hx), fun g' n' d' hd' => ?_⟩
      by_cases hp : (g', n') = (g, n)
      · cases hp
        rw [look_upd] at hd'
        cases hd'
        exact ⟨k, c, hs, hn, .inl (by rw [hd])⟩
      · rw [look_other _ _ _ _ hp] at hd'
        obtain ⟨k', c', q1, q2, q3⟩ := h.known g' n' d' hd'
        refine ⟨k', c', q1, q2, q3.imp id fun ⟨e, x, hx, c2, e1, e2⟩ => ⟨e, x, ?_, c2, e1, e2⟩⟩
        rcases List.mem_cons.1 hx with rfl | hx
        · simp only [Value.slice.injEq, Option.some.injEq, Addr.mk.injEq] at e1
          exact absurd (by rw [e1.1.1, e1.2.1]) hp
        · exact hx
    obtain ⟨p1, p2⟩ := h0.put h1 (d := d + 1) (by simp [hd])
    refine ⟨hd, p1, ?_⟩
    simp only [mes8, mesR]
    omega
/-- A list that is known isn't gone through now: its depth is known. -/
theorem Good8.deep_known (h : Good8 B R m W root (s :: path) M) {t : Tk} {k : Fo} (ha : s.k.at? s.i = some (true, t, k)) {F : Nat → Prop} {g n c : Nat} (hs : SlAt W F (.slice (some ⟨g, 0, none⟩) n c) k) {d : Int} (hd : look M (g, n) = some d) : d = (k.deep : Int) := by
  obtain ⟨k', c', h1, h2, h3⟩ := h.known g n d hd
  have hk := hs.one_thing h1
  subst hk
  rcases h3 with h3 | ⟨_, x, hx, c2, _, e2⟩
  · exact h3
  · have := h.way.size x hx
    have h4 := Fo.at_size ha
    rw [e2] at this
    omega
theorem Good8.small (h : Good8 B R m W root (s :: path) M) (hr : root.deep ≤ 1000000) : path.length ≤ 1000000 ∧ s.d ≤ 1000000 ∧ s.k.deep ≤ 1000000 := by
  have h1 := h.way.deep
  have h2 := (h.done s (by simp)).2.1
  have h3 := Fo.deepTo_le s.k s.i
  omega
end
/-- Where the measure of the walk is so much. -/
def Inv8 (B R m : Nat) (Wb : World) (root : Fo) (N : Nat) (wr : World) : Prop := ∃ s path pv M, WSt B R m wr (s :: path) pv M ∧ Good8 B R m wr root (s :: path) M ∧ mes8 (s :: path) = N ∧ Chg (Own8 B R m) Wb wr
theorem SlAt.first {W : World} {F : Nat → Prop} {v : Value} {k : Fo} (h : SlAt W F v k) (hk : 0 < k.len) : ∃ g c, v = .slice (some ⟨g, 0, none⟩) k.len c ∧ k.len ≤ c ∧ c ≤ maxLen := by
  obtain ⟨a, c, D, rfl, h2, h3, h4, h5, h6⟩ := h
  rcases h5 with e | ⟨g, cur, rfl, _⟩
  · omega
  · exact ⟨g, c, rfl, h2, h3⟩
/-! ### A measure that no slot tells -/
theorem has_least {p : Nat → Prop} (h : ∃ n, p n) : ∃ n, p n ∧ ∀ m, p m → n ≤ m := by
  obtain ⟨n, hn⟩ := h
  induction n using Nat.strongRecOn with
  | _ n ih =>
    by_cases hq : ∃ m, m < n ∧ p m
    · obtain ⟨m, h1, h2⟩ := hq
      exact ih m h1 h2
    · refine ⟨n, hn, fun m hm => ?_⟩
      apply Nat.le_of_not_lt
      exact fun hlt => hq ⟨m, hlt, hm⟩
open Classical in
noncomputable def least (I : Nat → World → Prop) (w : World) : Nat := if h : ∃ n, I n w then Classical.choose (has_least h) else 0
theorem least_spec {I : Nat → World → Prop} {w : World} (h : ∃ n, I n w) : I (least I w) w := by
  unfold least
  rw [dif_pos h]
  exact (Classical.choose_spec (has_least h)).1
theorem least_lt {I : Nat → World → Prop} {w w' : World} {n : Nat} (h : I n w') (hn : n < least I w) : least I w' < least I w := by
  refine Nat.lt_of_le_of_lt ?_ hn
  have hex : ∃ n, I n w' := ⟨n, h⟩
  unfold least
  rw [dif_pos hex]
  exact (Classical.choose_spec (has_least hex)).2 n h
end Go.Proofs.Ytgojipnhnmigpaa
