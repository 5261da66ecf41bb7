/-
  nat.Text.
-/
import Derived.Test.YtaiemcacpimcjaaDoorCmpNat
import Derived.Test.YtaiemcacpimcjaaDoorSub
import Derived.Test.YtaiemcacpimcjaaDoorShelf
import Derived.Laws.BytesArg
set_option linter.unusedVariables false
set_option linter.unusedSimpArgs false
namespace Go.Proofs.YtaiemcacpimcjaaDoor
open Go.RowKit Rep

/-- A byte's cell. -/
def u8v (d : Nat) : Value := .int .u8 (d : Int)
/-- A number's digits. -/
def D (n : Nat) : List Nat := Rep.rep 10 n
/-- The bytes of a number's text. -/
def txt (n : Nat) : List UInt8 := if n = 0 then [48] else (D n).reverse.map (fun d => UInt8.ofNat (48 + d))
def strOf (l : List UInt8) : ByteArray := ⟨l.toArray⟩

/-- A call gives a number's text. -/
def GivesTxt (n : Nat) (w : World) (e : Ending) (w' : World) : Prop := e = .returned (.string (strOf (txt n))) ∧ Below w.heap.size w w'

theorem Tryd.info5 : (Tryd.prog.info? 5).map (fun i => (i.zero, i.size, i.bytes)) = some (some (.int .u8 0), 1, 1) := by kernel_rfl

set_option maxRecDepth 100000 in
set_option maxHeartbeats 1000000 in
theorem Text_zero (ax : Option Addr) (xs : List Nat) (cx : Nat) (w : World) (hx : NumIn w ax cx xs) (hz : V xs = 0) :
    Calls Tryd.prog 27 #[.slice ax xs.length cx] w (GivesTxt (V xs) w) := by
  go_enter Tryd.func27, Tryd.ntmps27
  go_wp2_with fail
  refine (trim_num ax xs cx w hx.lim hx.reads hx.le hx.cap).mono ?_
  rintro e w' ⟨a1, c1, rfl, n1, rfl⟩
  rw [hz] at n1 ⊢
  rw [L_zero]
  have h1 := clone_any a1 c1 0 w n1 (by simp [L_zero])
  rw [L_zero] at h1
  have HC := Lib.hid h1
  clear h1 n1
  go_wp2_with fail
  refine HC.out.mono ?_
  rintro e w1 ⟨a3, c3, rfl, ho, hb⟩
  clear ho
  go_wp2_with fail
  go_ret
  exact ⟨by rw [hz]; rfl, hb⟩

/-- What is told already: the lower digits, in the block g0 from t on. -/
def Told (g0 T N : Nat) (t left : Nat) (wr : World) : Prop :=
  ∃ dl O : List Nat, Row 5 wr g0 T (O.map u8v) ∧ O.length = T ∧ t + dl.length = T ∧ O.drop t = (dl.map (48 + ·)).reverse ∧ Dig 10 dl ∧ N = val 10 dl + 10 ^ dl.length * left
/-- What is left, in a block of its own. -/
def LeftAt (B g0 : Nat) (wr : World) (a : Option Addr) (c left : Nat) : Prop :=
  c ≤ maxLen ∧ ((a = none ∧ c = 0 ∧ left = 0) ∨ ∃ g, a = some ⟨g, 0, none⟩ ∧ B ≤ g ∧ g < g0 ∧ Row 48 wr g c ((L left).map u32v))

theorem Told.room {g0 T N t left : Nat} {wr : World} (h : Told g0 T N t left wr) (hl : 0 < left) (hN : N < 10 ^ (T - 9)) (hT : 9 ≤ T) : 9 < t := by
  obtain ⟨dl, O, h1, h2, h3, h4, h5, h6⟩ := h
  have h7 : 10 ^ dl.length * 1 ≤ 10 ^ dl.length * left := Nat.mul_le_mul_left _ hl
  have h8 : 10 ^ dl.length < 10 ^ (T - 9) := by omega
  have h9 := (Nat.pow_lt_pow_iff_right (a := 10) (by omega)).1 h8
  omega

theorem Told.kept {g0 T N t left : Nat} {w w' : World} {row : Option Nat} (h : Told g0 T N t left w) (hg : w.grownBy w' row) (hne : row ≠ some g0) : Told g0 T N t left w' := by
  obtain ⟨dl, O, h1, r⟩ := h
  exact ⟨dl, O, h1.grown hg (fun e => hne e.symm), r⟩

/-- One digit more. -/
theorem Told.step {g0 T N t q r : Nat} {wr : World} (h : Told g0 T N (t + 1) (r + 10 * q) wr) (hr : r < 10) : (∃ v : Nat, wr.cell? ⟨g0, t, none⟩ = some (.int .u8 v)) ∧ wr.frozen? ⟨g0, t, none⟩ = false ∧ Told g0 T N t q (wr.setCell ⟨g0, t, none⟩ (.int .u8 ((48 + r : Nat) : Int))) := by
  obtain ⟨dl, O, h1, h2, h3, h4, h5, h6⟩ := h
  refine ⟨⟨_, h1.cell _ _ (map_getElem? (xs := O) (by omega))⟩, h1.frozen _, dl ++ [r], O.set t (48 + r), ?_, by simpa using h2, by simp; omega, ?_, h5.append (Dig.cons hr (Dig.nil _)), ?_⟩
  · have := h1.set t (u8v (48 + r))
    rwa [← List.map_set] at this
  · rw [List.drop_eq_getElem_cons (by simp; omega), List.getElem_set_self, List.drop_set, if_pos (by omega), h4]
    simp
  · rw [val_snoc, h6, List.length_append, List.length_cons, List.length_nil, Nat.pow_succ, Nat.mul_add, Nat.mul_assoc]
    omega

theorem pow_bound (n : Nat) : 4294967296 ^ n ≤ 10 ^ (10 * n) := by
  rw [Nat.pow_mul]
  exact Nat.pow_le_pow_left (by omega) n

/-- Within a group of nine digits. -/
def TextIn (w : World) (g0 T N : Nat) (a : Option Addr) (c q j t r : Nat) (wr : World) : Prop :=
  r < 10 ^ (9 - j) ∧ Told g0 T N t (r + 10 ^ (9 - j) * q) wr ∧ LeftAt w.heap.size g0 wr a c q ∧ Below w.heap.size w wr

theorem TextIn.step {w : World} {g0 T N : Nat} {a : Option Addr} {c q j t r : Nat} {wr : World} (h : TextIn w g0 T N a c q j (t + 1) r wr) (hj : j < 9) (hg0 : w.heap.size ≤ g0) :
    (∃ v : Nat, wr.cell? ⟨g0, t, none⟩ = some (.int .u8 v)) ∧ wr.frozen? ⟨g0, t, none⟩ = false ∧ TextIn w g0 T N a c q (j + 1) t (r / 10) (wr.setCell ⟨g0, t, none⟩ (.int .u8 ((48 + r % 10 : Nat) : Int))) := by
  obtain ⟨h1, h2, h3, h4⟩ := h
  have hp : 10 ^ (9 - j) = 10 * 10 ^ (9 - (j + 1)) := by rw [show 9 - j = 9 - (j + 1) + 1 from by omega, Nat.pow_succ, Nat.mul_comm]
  have he : r + 10 ^ (9 - j) * q = r % 10 + 10 * (r / 10 + 10 ^ (9 - (j + 1)) * q) := by
    rw [hp, Nat.mul_add, Nat.mul_assoc]
    omega
  rw [he] at h2
  obtain ⟨hv, hf, ht⟩ := h2.step (Nat.mod_lt _ (by omega))
  refine ⟨hv, hf, by rw [hp] at h1; omega, ht, ?_, h4.setCell (p := ⟨g0, t, none⟩) hg0 _⟩
  obtain ⟨hc, hn | ⟨g, rfl, hg, hgg, hr⟩⟩ := h3
  · exact ⟨hc, .inl hn⟩
  · exact ⟨hc, .inr ⟨g, rfl, hg, hgg, hr.other _ _ (by simp; omega)⟩⟩

theorem drop_zeros (l : List Nat) : ∃ k, l = List.replicate k 0 ++ l.dropWhile (· == 0) ∧ (l.dropWhile (· == 0)).head? ≠ some 0 := by
  induction l with
  | nil => exact ⟨0, rfl, by simp⟩
  | cons d l ih =>
    by_cases h : d = 0
    · subst h
      obtain ⟨k, h1, h2⟩ := ih
      refine ⟨k + 1, ?_, by simpa using h2⟩
      rw [List.dropWhile_cons, if_pos (by rfl), List.replicate_succ, List.cons_append, ← h1]
    · refine ⟨0, ?_, ?_⟩
      · rw [List.dropWhile_cons, if_neg (by simpa using h)]; rfl
      · rw [List.dropWhile_cons, if_neg (by simpa using h)]; simpa using h
theorem drop_rep (b : Nat) (hb : 2 ≤ b) (dl : List Nat) (h : Dig b dl) : dl.reverse.dropWhile (· == 0) = (rep b (val b dl)).reverse := by
  obtain ⟨k, h1, h2⟩ := drop_zeros dl.reverse
  have h3 : dl = (dl.reverse.dropWhile (· == 0)).reverse ++ List.replicate k 0 := by
    have := congrArg List.reverse h1
    rwa [List.reverse_reverse, List.reverse_append, List.reverse_replicate] at this
  have h4 : (dl.reverse.dropWhile (· == 0)).reverse = rep b (val b dl) := by
    refine eq_rep hb ?_ ?_ ?_
    · intro d hd
      exact h d (by rw [h3]; exact List.mem_append_left _ hd)
    · unfold Top
      rwa [List.getLast?_reverse]
    · conv => rhs; rw [h3, val_append, val_zeros, Nat.mul_zero, Nat.add_zero]
  rw [← h4, List.reverse_reverse]
theorem drop_text (dl : List Nat) (h : Dig 10 dl) : ((dl.reverse.map ((fun n => UInt8.ofNat n) ∘ fun x => 48 + x)).dropWhile (· == 48)) = (rep 10 (val 10 dl)).reverse.map (fun d => UInt8.ofNat (48 + d)) := by
  rw [← drop_rep 10 (by omega) dl h, List.dropWhile_map]
  have : ∀ l : List Nat, Dig 10 l → l.dropWhile ((fun x => x == 48) ∘ ((fun n => UInt8.ofNat n) ∘ fun x => 48 + x)) = l.dropWhile (· == 0) := by
    intro l
    induction l with
    | nil => intro _; rfl
    | cons d l ih =>
      intro hl
      have hd := hl.head
      have hp : ((fun x => x == 48) ∘ ((fun n => UInt8.ofNat n) ∘ fun x => 48 + x)) d = (d == 0) := by
        match d, hd with
        | 0, _ => rfl
        | 1, _ => rfl
        | 2, _ => rfl
        | 3, _ => rfl
        | 4, _ => rfl
        | 5, _ => rfl
        | 6, _ => rfl
        | 7, _ => rfl
        | 8, _ => rfl
        | 9, _ => rfl
      rw [List.dropWhile_cons, List.dropWhile_cons, hp, ih hl.tail]
  rw [this _ (fun d hd => h d (List.mem_reverse.1 hd))]
  rfl

/-- All is told: cut at its beginning it is the number's text. -/
theorem text_done {g0 T N t : Nat} {wr : World} (h : Told g0 T N t 0 wr) (hz : 0 < N) :
    t < T ∧ ∃ ns : List Nat, ns.length = T - t ∧ (∀ i, i < T - t → wr.cell? ⟨g0, t + i, none⟩ = some (.int .u8 ((ns.getD i 0 : Nat) : Int))) ∧
      (ns.map (fun n => UInt8.ofNat n)).dropWhile (· == 48) = txt N := by
  obtain ⟨dl, O, h1, h2, h3, h4, h5, h6⟩ := h
  have hlt : t < T := by
    have : dl ≠ [] := fun e => by subst e; simp [val] at h6; omega
    have := List.length_pos_iff.2 this
    omega
  refine ⟨hlt, O.drop t, by rw [List.length_drop]; omega, fun i hi => ?_, ?_⟩
  · have := h1.cell (t + i) _ (map_getElem? (xs := O) (by omega))
    simp only [List.getD_eq_getElem?_getD, List.getElem?_drop] at this ⊢
    exact this
  · rw [Nat.mul_zero, Nat.add_zero] at h6
    rw [h4, ← List.map_reverse, List.map_map]
    unfold txt D
    rw [if_neg (by omega), h6]
    exact drop_text dl h5

set_option maxRecDepth 100000 in
set_option maxHeartbeats 2000000 in
theorem Text_pos (ax : Option Addr) (xs : List Nat) (cx : Nat) (w : World) (hx : NumIn w ax cx xs) (hz : 0 < V xs) :
    Calls Tryd.prog 27 #[.slice ax xs.length cx] w (GivesTxt (V xs) w) := by
  have hlx := cutAt_len xs hx.lim
  have hxl := hx.len
  go_enter Tryd.func27, Tryd.ntmps27
  go_wp2_with fail
  refine (trim_num ax xs cx w hx.lim hx.reads hx.le hx.cap).mono ?_
  rintro e w' ⟨a1, c1, rfl, n1, rfl⟩
  clear hx
  generalize V xs = N at *
  go_wp2_with fail
  refine (clone_any a1 c1 N w n1 (by omega)).mono ?_
  rintro e w1 ⟨a3, c3, rfl, ho, hb⟩
  have hne : (((L N).length : Int) == 0) = false := by
    have : (L N).length ≠ 0 := fun h => by have := L_len_zero.1 h; omega
    simp
    exact fun h => this (by rw [h]; rfl)
  have hNT : N < 10 ^ (10 * (L N).length + 9 - 9) := by
    have h1 : N < 4294967296 ^ (L N).length := (L_len N _).1 (Nat.le_refl _)
    have h2 := pow_bound (L N).length
    rw [Nat.add_sub_cancel]
    omega
  have hmk := make_run (P := Tryd.prog) Tryd.underlying60 Tryd.info5 (10 * ↑(L N).length + 9) (10 * ↑(L N).length + 9) (10 * (L N).length + 9) (10 * (L N).length + 9) (by simp) (by simp) (Nat.le_refl _) (by omega) (by unfold maxLen; omega)
  go_wp2_with fail
  clear hmk
  obtain ⟨T, hT⟩ : ∃ T, T = 10 * (L N).length + 9 := ⟨_, rfl⟩
  have hTb : T ≤ 10737418249 := by omega
  have hT9 : 9 ≤ T := by omega
  rw [show (10 * ((L N).length : Int) + 9) = (T : Int) from by omega]
  rw [← hT] at hNT ⊢
  clear hT
  have hs0 : Told w1.heap.size T N T N (w1.alloc (.cells (zrow .u8 T) 5)) :=
    ⟨[], List.replicate T 0, by rw [List.map_replicate]; exact Row.zrow .u8 w1 T, by simp, by simp, by simp, Dig.nil _, by simp [val]⟩
  have hl0 : LeftAt w.heap.size w1.heap.size (w1.alloc (.cells (zrow .u8 T) 5)) a3 c3 N := by
    obtain ⟨h1, ⟨rfl, rfl, h2⟩ | ⟨g, rfl, hg, hr⟩⟩ := ho
    · exact ⟨h1, .inl ⟨rfl, rfl, L_nil.1 h2⟩⟩
    · exact ⟨h1, .inr ⟨g, rfl, hg, hr.lt, hr.alloc _⟩⟩
  have hb0 : Below w.heap.size w (w1.alloc (.cells (zrow .u8 T) 5)) := hb.alloc hb.size _
  have HS := Lib.hid (And.intro hs0 (And.intro hl0 hb0))
  have hg0 : w.heap.size ≤ w1.heap.size := hb.size
  clear hs0 hl0 hb0 ho hb hne
  generalize w1.heap.size = g0 at *
  go_loopw [3, 5] (fun lv tv wr => ∃ (a : Option Addr) (c left t : Nat), left ≤ N ∧ lv = .slice a (L left).length c ∧ tv = .int .i64 t ∧ Told g0 T N t left wr ∧ LeftAt w.heap.size g0 wr a c left ∧ Below w.heap.size w wr)
    (fun _ tv _ => (intOf tv).toNat)
  case atStart => exact ⟨a3, c3, N, T, Nat.le_refl _, rfl, rfl, HS.out.1, HS.out.2.1, HS.out.2.2⟩
  case round =>
    obtain ⟨a, c, left, t, hln, rfl, rfl, htold, hleft, hB⟩ := hrel
    clear HS
    rcases Nat.eq_zero_or_pos left with h0 | h0
    · subst h0
      rw [L_zero]
      have HT := Lib.hid (text_done htold hz)
      have ht : t ≤ T := by obtain ⟨dl, O, h1, h2, h3, _⟩ := htold; omega
      clear htold hleft
      obtain ⟨htT, ns, hnl, hcell, htxt⟩ := HT.out
      have hTt : ¬ (T = t) := by omega
      have hcv := run_convert_bytes_arg (P := Tryd.prog) wr 60 5 Tryd.underlying60 Tryd.underlying5 g0 t (T - t) (T - t) (ns.map Int.ofNat) (by simpa using hnl) (fun i hi => by
        rw [hcell i hi]
        congr 2
        simp only [List.getD_eq_getElem?_getD, List.getElem?_map]
        cases ns[i]? <;> rfl) 9 Tryd.underlying9
      have HX := Lib.hid htxt
      clear HT hcell htxt hnl
      go_wp2_with fail
      refine (Tryd.strings_TrimLeft_one (strOfNums (ns.map Int.ofNat)) 48 (by decide) wr).mono ?_
      rintro e w' ⟨rfl, rfl⟩
      go_wp2_with fail
      go_ret
      refine ⟨?_, hB⟩
      show Ending.returned (.string ⟨(Lib.trimLeftB (strOfNums (ns.map Int.ofNat)).data.toList 48).toArray⟩) = _
      rw [strOfNums_data, List.map_map, ← HX.out]
      rfl
    · have hroom := htold.room h0 hNT hT9
      obtain ⟨hc, ⟨rfl, rfl, h1⟩ | ⟨g, rfl, hg, hgg, hrow⟩⟩ := hleft
      · omega
      have hlen : (L left).length ≠ 0 := fun h => by have := L_len_zero.1 h; omega
      have hpos : 0 < (L left).length := by omega
      have hll : (L left).length ≤ 1073741824 := by
        have h1 : left < 4294967296 ^ (L N).length := by
          have : N < 4294967296 ^ (L N).length := (L_len N _).1 (Nat.le_refl _)
          omega
        have := (L_len left _).2 h1
        omega
      have HC := Lib.hid (shrink_row w.heap.size g c 1000000000 (L left) wr (L_lim left) hg hc hrow hll (by omega) (by omega))
      have HT := Lib.hid htold
      clear hlen hrow htold
      go_wp2_with fail
      refine HC.out.mono ?_
      rintro e w2 ⟨a', c', rfl, ho, ha, hgr⟩
      rw [V_L] at ho ⊢
      have hB2 : Below w.heap.size w w2 := hB.grown hgr hB.size (fun k hk => by cases hk; exact hg)
      have hT2 : Told g0 T N t left w2 := HT.out.kept hgr (by simp; omega)
      have hl2 : LeftAt w.heap.size g0 w2 a' c' (left / 1000000000) := by
        obtain ⟨h1, ⟨rfl, rfl, h2⟩ | ⟨g', rfl, hg', hr'⟩⟩ := ho
        · exact ⟨h1, .inl ⟨rfl, rfl, L_nil.1 h2⟩⟩
        · rcases ha with ha | ha
          · cases ha
          · cases ha; exact ⟨h1, .inr ⟨g, rfl, hg, hgg, hr'⟩⟩
      have H2 := Lib.hid (And.intro hT2 (And.intro hl2 hB2))
      have hgl : left % 1000000000 < 1000000000 := Nat.mod_lt _ (by omega)
      have HD := Lib.hid (Nat.mod_add_div left 1000000000)
      clear ho ha hgr hB2 hT2 hl2 HC HT hB
      have hle2 : left / 1000000000 ≤ N := by omega
      generalize left / 1000000000 = q at *
      generalize left % 1000000000 = r at *
      go_wp2_with fail
      obtain ⟨wo, rfl⟩ : ∃ wo : World, wo = wr := ⟨_, rfl⟩
      go_loopw [5, 6, 28] (fun tv gv jv wr => ∃ j t' r' : Nat, j ≤ 9 ∧ jv = .int .i64 j ∧ tv = .int .i64 t' ∧ t' + j = t ∧ gv = .int .u32 r' ∧ r' < 4294967296 ∧ TextIn w g0 T N a' c' q j t' r' wr) (fun _ _ jv _ => 9 - (intOf jv).toNat)
      case atStart => exact ⟨0, t, r, by omega, rfl, rfl, rfl, rfl, by omega, by
        have := H2.out.1
        rw [← HD.out] at this
        exact ⟨by simpa using hgl, this, H2.out.2⟩⟩
      case round =>
        obtain ⟨j, t', r', hj, rfl, rfl, htj, rfl, hr', hin⟩ := hrel
        have HTJ := Lib.hid htj
        have ht' : t' ≤ T := by obtain ⟨_, ⟨dl, O, h1, h2, h3, _⟩, _⟩ := hin; omega
        by_cases hjl : j < 9
        · have ht1 : 1 ≤ t' := by have := HTJ.out; omega
          obtain ⟨t'', rfl⟩ : ∃ t'', t' = t'' + 1 := ⟨t' - 1, by omega⟩
          obtain ⟨⟨v, hcv⟩, hfv, hnext⟩ := hin.step hjl hg0
          have HN := Lib.hid hnext
          clear hin hnext htj
          go_wp2_with fail
          go_roundw
          case rel => exact ⟨j + 1, t'', r' / 10, by omega, by go_num, by go_num, by have := HTJ.out; omega, by go_num, by omega, HN.out⟩
          case measure => simp only [intOf]; omega
        · obtain rfl : j = 9 := by omega
          obtain ⟨hr0, htold, hleft, hB⟩ := hin
          obtain rfl : r' = 0 := by simpa using hr0
          have htold' : Told g0 T N t' q wr := by simpa using htold
          clear htold hr0
          go_wp2_with fail
          go_roundw
          case rel => exact ⟨a', c', q, t', hle2, rfl, rfl, htold', hleft, hB⟩
          case measure => have := HTJ.out; simp only [intOf]; omega

theorem Text_any (ax : Option Addr) (xs : List Nat) (cx : Nat) (w : World) (hx : NumIn w ax cx xs) :
    Calls Tryd.prog 27 #[.slice ax xs.length cx] w (GivesTxt (V xs) w) := by
  rcases Nat.eq_zero_or_pos (V xs) with h | h
  · exact Text_zero ax xs cx w hx h
  · exact Text_pos ax xs cx w hx h
end Go.Proofs.YtaiemcacpimcjaaDoor
