/- By program out of: Text, Grow, Parse, Hand, RefA, Knuth, Guess, RefB. -/
import Derived.Test.YtpjeecahaeaajaaGreatDoorMdnomnp
import Derived.Test.YtpjeecahaeaajaaGreatDoorMjjocoa
import Derived.Laws.BytesArg
import Derived.Deep.QuietTactic
import Derived.BigQuiet
set_option linter.unusedVariables false
set_option linter.unusedSimpArgs false
namespace Go.Proofs.YtpjeecahaeaajaaGreatDoor
open Go.RowKit Rep
def u8v (d : Nat) : Value := .int .u8 (d : Int)
def D (n : Nat) : List Nat := Rep.rep 10 n
def txt (n : Nat) : List UInt8 := if n = 0 then [48] else (D n).reverse.map (fun d => UInt8.ofNat (48 + d))
def strOf (l : List UInt8) : ByteArray := ⟨l.toArray⟩
def GivesTxt (n : Nat) (w : World) (e : Ending) (w' : World) : Prop := e = .returned (.string (strOf (txt n))) ∧ Below w.heap.size w w'
theorem Tryz.info5 : (Tryz.prog.info? 5).map (fun i => (i.zero, i.size, i.bytes)) = some (some (.int .u8 0), 1, 1) := by kernel_rfl
set_option maxRecDepth 100000 in
set_option maxHeartbeats 1000000 in
theorem Text_zero (ax : Option Addr) (xs : List Nat) (cx : Nat) (w : World) (hx : NumIn w ax cx xs) (hz : V xs = 0) :
    Calls Tryz.prog 51 #[.slice ax xs.length cx] w (GivesTxt (V xs) w) := by
  go_enter Tryz.func51, Tryz.ntmps51
  go_wp2_with fail
  refine (trim_num ax xs cx w hx.lim hx.reads hx.le hx.cap).mono ?_
  rintro e w' ⟨a1, c1, rfl, n1, rfl⟩
  rw [hz] at n1 ⊢
  rw [L_zero]
  have h1 := clone_any a1 c1 0 w n1 (by simp [L_zero])
  rw [L_zero] at h1
  have HC := Lib.hid h1
  clear h1 n1
  go_wp2_with fail
  refine HC.out.mono ?_
  rintro e w1 ⟨a3, c3, rfl, ho, hb⟩
  clear ho
  go_wp2_with fail
  go_ret
  exact ⟨by rw [hz]; rfl, hb⟩
def Told (g0 T N : Nat) (t left : Nat) (wr : World) : Prop :=
  ∃ dl O : List Nat, Row 5 wr g0 T (O.map u8v) ∧ O.length = T ∧ t + dl.length = T ∧ O.drop t = (dl.map (48 + ·)).reverse ∧ Dig 10 dl ∧ N = val 10 dl + 10 ^ dl.length * left
def LeftAt (B g0 : Nat) (wr : World) (a : Option Addr) (c left : Nat) : Prop :=
  c ≤ maxLen ∧ ((a = none ∧ c = 0 ∧ left = 0) ∨ ∃ g, a = some ⟨g, 0, none⟩ ∧ B ≤ g ∧ g < g0 ∧ Row 68 wr g c ((L left).map u32v))
theorem Told.room {g0 T N t left : Nat} {wr : World} (h : Told g0 T N t left wr) (hl : 0 < left) (hN : N < 10 ^ (T - 9)) (hT : 9 ≤ T) : 9 < t := by
  obtain ⟨dl, O, h1, h2, h3, h4, h5, h6⟩ := h
  have h7 : 10 ^ dl.length * 1 ≤ 10 ^ dl.length * left := Nat.mul_le_mul_left _ hl
  have h8 : 10 ^ dl.length < 10 ^ (T - 9) := by omega
  have h9 := (Nat.pow_lt_pow_iff_right (a := 10) (by omega)).1 h8
  omega
theorem Told.kept {g0 T N t left : Nat} {w w' : World} {row : Option Nat} (h : Told g0 T N t left w) (hg : w.grownBy w' row) (hne : row ≠ some g0) : Told g0 T N t left w' := by
  obtain ⟨dl, O, h1, r⟩ := h
  exact ⟨dl, O, h1.grown hg (fun e => hne e.symm), r⟩
theorem Told.step {g0 T N t q r : Nat} {wr : World} (h : Told g0 T N (t + 1) (r + 10 * q) wr) (hr : r < 10) : (∃ v : Nat, wr.cell? ⟨g0, t, none⟩ = some (.int .u8 v)) ∧ wr.frozen? ⟨g0, t, none⟩ = false ∧ Told g0 T N t q (wr.setCell ⟨g0, t, none⟩ (.int .u8 ((48 + r : Nat) : Int))) := by
  obtain ⟨dl, O, h1, h2, h3, h4, h5, h6⟩ := h
  refine ⟨⟨_, h1.cell _ _ (map_getElem? (xs := O) (by omega))⟩, h1.frozen _, dl ++ [r], O.set t (48 + r), ?_, by simpa using h2, by simp; omega, ?_, h5.append (Dig.cons hr (Dig.nil _)), ?_⟩
  · have := h1.set t (u8v (48 + r))
    rwa [← List.map_set] at this
  · rw [List.drop_eq_getElem_cons (by simp; omega), List.getElem_set_self, List.drop_set, if_pos (by omega), h4]
    simp
  · rw [val_snoc, h6, List.length_append, List.length_cons, List.length_nil, Nat.pow_succ, Nat.mul_add, Nat.mul_assoc]
    omega
theorem pow_bound (n : Nat) : 4294967296 ^ n ≤ 10 ^ (10 * n) := by
  rw [Nat.pow_mul]
  exact Nat.pow_le_pow_left (by omega) n
def TextIn (w : World) (g0 T N : Nat) (a : Option Addr) (c q j t r : Nat) (wr : World) : Prop :=
  r < 10 ^ (9 - j) ∧ Told g0 T N t (r + 10 ^ (9 - j) * q) wr ∧ LeftAt w.heap.size g0 wr a c q ∧ Below w.heap.size w wr
theorem TextIn.step {w : World} {g0 T N : Nat} {a : Option Addr} {c q j t r : Nat} {wr : World} (h : TextIn w g0 T N a c q j (t + 1) r wr) (hj : j < 9) (hg0 : w.heap.size ≤ g0) :
    (∃ v : Nat, wr.cell? ⟨g0, t, none⟩ = some (.int .u8 v)) ∧ wr.frozen? ⟨g0, t, none⟩ = false ∧ TextIn w g0 T N a c q (j + 1) t (r / 10) (wr.setCell ⟨g0, t, none⟩ (.int .u8 ((48 + r % 10 : Nat) : Int))) := by
  obtain ⟨h1, h2, h3, h4⟩ := h
  have hp : 10 ^ (9 - j) = 10 * 10 ^ (9 - (j + 1)) := by rw [show 9 - j = 9 - (j + 1) + 1 from by omega, Nat.pow_succ, Nat.mul_comm]
  have he : r + 10 ^ (9 - j) * q = r % 10 + 10 * (r / 10 + 10 ^ (9 - (j + 1)) * q) := by
    rw [hp, Nat.mul_add, Nat.mul_assoc]
    omega
  rw [he] at h2
  obtain ⟨hv, hf, ht⟩ := h2.step (Nat.mod_lt _ (by omega))
  refine ⟨hv, hf, by rw [hp] at h1; omega, ht, ?_, h4.setCell (p := ⟨g0, t, none⟩) hg0 _⟩
  obtain ⟨hc, hn | ⟨g, rfl, hg, hgg, hr⟩⟩ := h3
  · exact ⟨hc, .inl hn⟩
  · exact ⟨hc, .inr ⟨g, rfl, hg, hgg, hr.other _ _ (by simp; omega)⟩⟩
theorem drop_zeros (l : List Nat) : ∃ k, l = List.replicate k 0 ++ l.dropWhile (· == 0) ∧ (l.dropWhile (· == 0)).head? ≠ some 0 := by
  induction l with
  | nil => exact ⟨0, rfl, by simp⟩
  | cons d l ih =>
    by_cases h : d = 0
    · subst h
      obtain ⟨k, h1, h2⟩ := ih
      refine ⟨k + 1, ?_, by simpa using h2⟩
      rw [List.dropWhile_cons, if_pos (by rfl), List.replicate_succ, List.cons_append, ← h1]
    · refine ⟨0, ?_, ?_⟩
      · rw [List.dropWhile_cons, if_neg (by simpa using h)]; rfl
      · rw [List.dropWhile_cons, if_neg (by simpa using h)]; simpa using h
theorem drop_rep (b : Nat) (hb : 2 ≤ b) (dl : List Nat) (h : Dig b dl) : dl.reverse.dropWhile (· == 0) = (rep b (val b dl)).reverse := by
  obtain ⟨k, h1, h2⟩ := drop_zeros dl.reverse
  have h3 : dl = (dl.reverse.dropWhile (· == 0)).reverse ++ List.replicate k 0 := by
    have := congrArg List.reverse h1
    rwa [List.reverse_reverse, List.reverse_append, List.reverse_replicate] at this
  have h4 : (dl.reverse.dropWhile (· == 0)).reverse = rep b (val b dl) := by
    refine eq_rep hb ?_ ?_ ?_
    · intro d hd
      exact h d (by rw [h3]; exact List.mem_append_left _ hd)
    · unfold Top
      rwa [List.getLast?_reverse]
    · conv => rhs; rw [h3, val_append, val_zeros, Nat.mul_zero, Nat.add_zero]
  rw [← h4, List.reverse_reverse]
theorem drop_text (dl : List Nat) (h : Dig 10 dl) : ((dl.reverse.map ((fun n => UInt8.ofNat n) ∘ fun x => 48 + x)).dropWhile (· == 48)) = (rep 10 (val 10 dl)).reverse.map (fun d => UInt8.ofNat (48 + d)) := by
  rw [← drop_rep 10 (by omega) dl h, List.dropWhile_map]
  have : ∀ l : List Nat, Dig 10 l → l.dropWhile ((fun x => x == 48) ∘ ((fun n => UInt8.ofNat n) ∘ fun x => 48 + x)) = l.dropWhile (· == 0) := by
    intro l
    induction l with
    | nil => intro _; rfl
    | cons d l ih =>
      intro hl
      have hd := hl.head
      have hp : ((fun x => x == 48) ∘ ((fun n => UInt8.ofNat n) ∘ fun x => 48 + x)) d = (d == 0) := by
        match d, hd with
        | 0, _ => rfl
        | 1, _ => rfl
        | 2, _ => rfl
        | 3, _ => rfl
        | 4, _ => rfl
        | 5, _ => rfl
        | 6, _ => rfl
        | 7, _ => rfl
        | 8, _ => rfl
        | 9, _ => rfl
      rw [List.dropWhile_cons, List.dropWhile_cons, hp, ih hl.tail]
  rw [this _ (fun d hd => h d (List.mem_reverse.1 hd))]
  rfl
theorem text_done {g0 T N t : Nat} {wr : World} (h : Told g0 T N t 0 wr) (hz : 0 < N) :
    t < T ∧ ∃ ns : List Nat, ns.length = T - t ∧ (∀ i, i < T - t → wr.cell? ⟨g0, t + i, none⟩ = some (.int .u8 ((ns.getD i 0 : Nat) : Int))) ∧
      (ns.map (fun n => UInt8.ofNat n)).dropWhile (· == 48) = txt N := by
  obtain ⟨dl, O, h1, h2, h3, h4, h5, h6⟩ := h
  have hlt : t < T := by
    have : dl ≠ [] := fun e => by subst e; simp [val] at h6; omega
    have := List.length_pos_iff.2 this
    omega
  refine ⟨hlt, O.drop t, by rw [List.length_drop]; omega, fun i hi => ?_, ?_⟩
  · have := h1.cell (t + i) _ (map_getElem? (xs := O) (by omega))
    simp only [List.getD_eq_getElem?_getD, List.getElem?_drop] at this ⊢
    exact this
  · rw [Nat.mul_zero, Nat.add_zero] at h6
    rw [h4, ← List.map_reverse, List.map_map]
    unfold txt D
    rw [if_neg (by omega), h6]
    exact drop_text dl h5
set_option maxRecDepth 100000 in
set_option maxHeartbeats 2000000 in
theorem Text_pos (ax : Option Addr) (xs : List Nat) (cx : Nat) (w : World) (hx : NumIn w ax cx xs) (hz : 0 < V xs) :
    Calls Tryz.prog 51 #[.slice ax xs.length cx] w (GivesTxt (V xs) w) := by
  have hlx := cutAt_len xs hx.lim
  have hxl := hx.len
  go_enter Tryz.func51, Tryz.ntmps51
  go_wp2_with fail
  refine (trim_num ax xs cx w hx.lim hx.reads hx.le hx.cap).mono ?_
  rintro e w' ⟨a1, c1, rfl, n1, rfl⟩
  clear hx
  generalize V xs = N at *
  go_wp2_with fail
  refine (clone_any a1 c1 N w n1 (by omega)).mono ?_
  rintro e w1 ⟨a3, c3, rfl, ho, hb⟩
  have hne : (((L N).length : Int) == 0) = false := by
    have : (L N).length ≠ 0 := fun h => by have := L_len_zero.1 h; omega
    simp
    exact fun h => this (by rw [h]; rfl)
  have hNT : N < 10 ^ (10 * (L N).length + 9 - 9) := by
    have h1 : N < 4294967296 ^ (L N).length := (L_len N _).1 (Nat.le_refl _)
    have h2 := pow_bound (L N).length
    rw [Nat.add_sub_cancel]
    omega
  have hmk := make_run (P := Tryz.prog) Tryz.underlying106 Tryz.info5 (10 * ↑(L N).length + 9) (10 * ↑(L N).length + 9) (10 * (L N).length + 9) (10 * (L N).length + 9) (by simp) (by simp) (Nat.le_refl _) (by omega) (by unfold maxLen; omega)
  go_wp2_with fail
  clear hmk
  obtain ⟨T, hT⟩ : ∃ T, T = 10 * (L N).length + 9 := ⟨_, rfl⟩
  have hTb : T ≤ 10737418249 := by omega
  have hT9 : 9 ≤ T := by omega
  rw [show (10 * ((L N).length : Int) + 9) = (T : Int) from by omega]
  rw [← hT] at hNT ⊢
  clear hT
  have hs0 : Told w1.heap.size T N T N (w1.alloc (.cells (zrow .u8 T) 5)) :=
    ⟨[], List.replicate T 0, by rw [List.map_replicate]; exact Row.zrow .u8 w1 T, by simp, by simp, by simp, Dig.nil _, by simp [val]⟩
  have hl0 : LeftAt w.heap.size w1.heap.size (w1.alloc (.cells (zrow .u8 T) 5)) a3 c3 N := by
    obtain ⟨h1, ⟨rfl, rfl, h2⟩ | ⟨g, rfl, hg, hr⟩⟩ := ho
    · exact ⟨h1, .inl ⟨rfl, rfl, L_nil.1 h2⟩⟩
    · exact ⟨h1, .inr ⟨g, rfl, hg, hr.lt, hr.alloc _⟩⟩
  have hb0 : Below w.heap.size w (w1.alloc (.cells (zrow .u8 T) 5)) := hb.alloc hb.size _
  have HS := Lib.hid (And.intro hs0 (And.intro hl0 hb0))
  have hg0 : w.heap.size ≤ w1.heap.size := hb.size
  clear hs0 hl0 hb0 ho hb hne
  generalize w1.heap.size = g0 at *
  go_loopw [3, 5] (fun lv tv wr => ∃ (a : Option Addr) (c left t : Nat), left ≤ N ∧ lv = .slice a (L left).length c ∧ tv = .int .i64 t ∧ Told g0 T N t left wr ∧ LeftAt w.heap.size g0 wr a c left ∧ Below w.heap.size w wr)
    (fun _ tv _ => (intOf tv).toNat)
  case atStart => exact ⟨a3, c3, N, T, Nat.le_refl _, rfl, rfl, HS.out.1, HS.out.2.1, HS.out.2.2⟩
  case round =>
    obtain ⟨a, c, left, t, hln, rfl, rfl, htold, hleft, hB⟩ := hrel
    clear HS
    rcases Nat.eq_zero_or_pos left with h0 | h0
    · subst h0
      rw [L_zero]
      have HT := Lib.hid (text_done htold hz)
      have ht : t ≤ T := by obtain ⟨dl, O, h1, h2, h3, _⟩ := htold; omega
      clear htold hleft
      obtain ⟨htT, ns, hnl, hcell, htxt⟩ := HT.out
      have hTt : ¬ (T = t) := by omega
      have hcv := run_convert_bytes_arg (P := Tryz.prog) wr 106 5 Tryz.underlying106 Tryz.underlying5 g0 t (T - t) (T - t) (ns.map Int.ofNat) (by simpa using hnl) (fun i hi => by
        rw [hcell i hi]
        congr 2
        simp only [List.getD_eq_getElem?_getD, List.getElem?_map]
        cases ns[i]? <;> rfl) 9 Tryz.underlying9
      have HX := Lib.hid htxt
      clear HT hcell htxt hnl
      go_wp2_with fail
      refine (Tryz.strings_TrimLeft_one (strOfNums (ns.map Int.ofNat)) 48 (by decide) wr).mono ?_
      rintro e w' ⟨rfl, rfl⟩
      go_wp2_with fail
      go_ret
      refine ⟨?_, hB⟩
      show Ending.returned (.string ⟨(Lib.trimLeftB (strOfNums (ns.map Int.ofNat)).data.toList 48).toArray⟩) = _
      rw [strOfNums_data, List.map_map, ← HX.out]
      rfl
    · have hroom := htold.room h0 hNT hT9
      obtain ⟨hc, ⟨rfl, rfl, h1⟩ | ⟨g, rfl, hg, hgg, hrow⟩⟩ := hleft
      · omega
      have hlen : (L left).length ≠ 0 := fun h => by have := L_len_zero.1 h; omega
      have hpos : 0 < (L left).length := by omega
      have hll : (L left).length ≤ 1073741824 := by
        have h1 : left < 4294967296 ^ (L N).length := by
          have : N < 4294967296 ^ (L N).length := (L_len N _).1 (Nat.le_refl _)
          omega
        have := (L_len left _).2 h1
        omega
      have HC := Lib.hid (shrink_row w.heap.size g c 1000000000 (L left) wr (L_lim left) hg hc hrow hll (by omega) (by omega))
      have HT := Lib.hid htold
      clear hlen hrow htold
      go_wp2_with fail
      refine HC.out.mono ?_
      rintro e w2 ⟨a', c', rfl, ho, ha, hgr⟩
      rw [V_L] at ho ⊢
      have hB2 : Below w.heap.size w w2 := hB.grown hgr hB.size (fun k hk => by cases hk; exact hg)
      have hT2 : Told g0 T N t left w2 := HT.out.kept hgr (by simp; omega)
      have hl2 : LeftAt w.heap.size g0 w2 a' c' (left / 1000000000) := by
        obtain ⟨h1, ⟨rfl, rfl, h2⟩ | ⟨g', rfl, hg', hr'⟩⟩ := ho
        · exact ⟨h1, .inl ⟨rfl, rfl, L_nil.1 h2⟩⟩
        · rcases ha with ha | ha
          · cases ha
          · cases ha; exact ⟨h1, .inr ⟨g, rfl, hg, hgg, hr'⟩⟩
      have H2 := Lib.hid (And.intro hT2 (And.intro hl2 hB2))
      have hgl : left % 1000000000 < 1000000000 := Nat.mod_lt _ (by omega)
      have HD := Lib.hid (Nat.mod_add_div left 1000000000)
      clear ho ha hgr hB2 hT2 hl2 HC HT hB
      have hle2 : left / 1000000000 ≤ N := by omega
      generalize left / 1000000000 = q at *
      generalize left % 1000000000 = r at *
      go_wp2_with fail
      obtain ⟨wo, rfl⟩ : ∃ wo : World, wo = wr := ⟨_, rfl⟩
      go_loopw [5, 6, 28] (fun tv gv jv wr => ∃ j t' r' : Nat, j ≤ 9 ∧ jv = .int .i64 j ∧ tv = .int .i64 t' ∧ t' + j = t ∧ gv = .int .u32 r' ∧ r' < 4294967296 ∧ TextIn w g0 T N a' c' q j t' r' wr) (fun _ _ jv _ => 9 - (intOf jv).toNat)
      case atStart => exact ⟨0, t, r, by omega, rfl, rfl, rfl, rfl, by omega, by
        have := H2.out.1
        rw [← HD.out] at this
        exact ⟨by simpa using hgl, this, H2.out.2⟩⟩
      case round =>
        obtain ⟨j, t', r', hj, rfl, rfl, htj, rfl, hr', hin⟩ := hrel
        have HTJ := Lib.hid htj
        have ht' : t' ≤ T := by obtain ⟨_, ⟨dl, O, h1, h2, h3, _⟩, _⟩ := hin; omega
        by_cases hjl : j < 9
        · have ht1 : 1 ≤ t' := by have := HTJ.out; omega
          obtain ⟨t'', rfl⟩ : ∃ t'', t' = t'' + 1 := ⟨t' - 1, by omega⟩
          obtain ⟨⟨v, hcv⟩, hfv, hnext⟩ := hin.step hjl hg0
          have HN := Lib.hid hnext
          clear hin hnext htj
          go_wp2_with fail
          go_roundw
          case rel => exact ⟨j + 1, t'', r' / 10, by omega, by go_num, by go_num, by have := HTJ.out; omega, by go_num, by omega, HN.out⟩
          case measure => simp only [intOf]; omega
        · obtain rfl : j = 9 := by omega
          obtain ⟨hr0, htold, hleft, hB⟩ := hin
          obtain rfl : r' = 0 := by simpa using hr0
          have htold' : Told g0 T N t' q wr := by simpa using htold
          clear htold hr0
          go_wp2_with fail
          go_roundw
          case rel => exact ⟨a', c', q, t', hle2, rfl, rfl, htold', hleft, hB⟩
          case measure => have := HTJ.out; simp only [intOf]; omega
theorem Text_any (ax : Option Addr) (xs : List Nat) (cx : Nat) (w : World) (hx : NumIn w ax cx xs) :
    Calls Tryz.prog 51 #[.slice ax xs.length cx] w (GivesTxt (V xs) w) := by
  rcases Nat.eq_zero_or_pos (V xs) with h | h
  · exact Text_zero ax xs cx w hx h
  · exact Text_pos ax xs cx w hx h
end Go.Proofs.YtpjeecahaeaajaaGreatDoor

set_option linter.unusedVariables false
set_option linter.unusedSimpArgs false
namespace Go.Proofs.YtpjeecahaeaajaaGreatDoor
open Go.RowKit Rep
namespace Rep
theorem rep_len_mono {b : Nat} (hb : 2 ≤ b) {n m : Nat} (h : n ≤ m) : (rep b n).length ≤ (rep b m).length :=
  (rep_length_le hb n _).2 (Nat.lt_of_le_of_lt h ((rep_length_le hb m _).1 (Nat.le_refl _)))
theorem eq_rep_len {b : Nat} (hb : 2 ≤ b) {l : List Nat} {n : Nat} (hd : Dig b l) (hv : val b l = n) (hl : l.length ≤ (rep b n).length) : l = rep b n := by
  have h1 := strip_eq hb hd
  rw [hv] at h1
  have h2 : (strip l).length = (rep b n).length := by rw [h1]
  have h3 := cutAt_le l l.length
  rw [strip_length] at h2
  rw [← h1]
  unfold strip
  rw [List.take_of_length_le (by omega)]
structure Grow (b t m : Nat) (xs Q : List Nat) (k c : Nat) : Prop where
  len : Q.length = xs.length
  dig : Dig b Q
  low : val b (Q.take k) + b ^ k * c = t * val b (xs.take k) + m
  high : ∀ j, k ≤ j → Q.getD j 0 = xs.getD j 0
  lt : c < t
theorem Grow.start {b t m : Nat} {xs : List Nat} (hx : Dig b xs) (hm : m < t) : Grow b t m xs xs 0 m := ⟨rfl, hx, by simp [val], fun _ _ => rfl, hm⟩
theorem take_succ_val (b : Nat) (l : List Nat) (k : Nat) (h : k < l.length) : val b (l.take (k + 1)) = val b (l.take k) + b ^ k * l.getD k 0 := by
  rw [List.take_succ_eq_append_getElem h, val_snoc, List.length_take, Nat.min_eq_left (by omega), List.getD_eq_getElem?_getD, List.getElem?_eq_getElem h]; rfl
theorem Grow.step {b t m : Nat} {xs Q : List Nat} {k c : Nat} (h : Grow b t m xs Q k c) (hk : k < xs.length) (hb : 2 ≤ b) {n : Nat} (hn : n = Q.getD k 0 * t + c) : Grow b t m xs (Q.set k (n % b)) (k + 1) (n / b) := by
  have hkQ : k < Q.length := by rw [h.len]; exact hk
  have hx : Q.getD k 0 < b := h.dig.getD k (by omega)
  have hlt : n < b * t := by
    have h1 : (Q.getD k 0 + 1) * t ≤ b * t := Nat.mul_le_mul_right t hx
    rw [Nat.add_mul, Nat.one_mul] at h1
    have := h.lt
    omega
  refine ⟨by simpa using h.len, h.dig.set _ _ (Nat.mod_lt _ (by omega)), ?_, fun j hj => ?_, by rw [Nat.div_lt_iff_lt_mul (by omega), Nat.mul_comm]; exact hlt⟩
  · rw [take_succ_val b (Q.set k (n % b)) k (by simpa using hkQ), take_succ_val b xs k hk, List.take_set_of_le (Nat.le_refl k)]
    have e : (Q.set k (n % b)).getD k 0 = n % b := by rw [List.getD_eq_getElem?_getD, List.getElem?_set_self hkQ]; rfl
    rw [e, Nat.pow_succ, ← h.high k (Nat.le_refl k), Nat.mul_add]
    have h2 := h.low
    have h3 := Nat.mod_add_div n b
    have h4 : b ^ k * (n % b) + b ^ k * b * (n / b) = b ^ k * n := by rw [Nat.mul_assoc, ← Nat.mul_add, h3]
    have h5 : b ^ k * n = t * (b ^ k * Q.getD k 0) + b ^ k * c := by
      rw [hn, Nat.mul_add]
      congr 1
      ac_rfl
    omega
  · rw [List.getD_eq_getElem?_getD, List.getElem?_set_ne (by omega), ← List.getD_eq_getElem?_getD]
    exact h.high j (by omega)
theorem Grow.done {b t m : Nat} {xs Q : List Nat} {c : Nat} (h : Grow b t m xs Q xs.length c) (hb : 2 ≤ b) (hx : Dig b xs) (htop : Top xs) : Q ++ rep b c = rep b (t * val b xs + m) := by
  have hl := h.low
  rw [List.take_of_length_le (Nat.le_of_eq h.len), List.take_length] at hl
  have ht : 1 ≤ t := by have := h.lt; omega
  by_cases hc : c = 0
  · subst hc
    rw [rep_zero, List.append_nil]
    refine eq_rep_len hb h.dig (by omega) ?_
    rw [h.len]
    conv => lhs; rw [← rep_val hb hx htop]
    refine rep_len_mono hb ?_
    have : 1 * val b xs ≤ t * val b xs := Nat.mul_le_mul_right _ ht
    omega
  · refine eq_rep hb (h.dig.append (rep_dig (by omega) c)) ?_ ?_
    · have hne : rep b c ≠ [] := fun e => hc ((rep_eq_nil hb).1 e)
      unfold Top
      rw [List.getLast?_append]
      have := rep_top hb c
      unfold Top at this
      rw [List.getLast?_eq_some_getLast hne] at this ⊢
      simpa using this
    · rw [val_append, val_rep hb, h.len]
      exact hl
theorem rep_small {b : Nat} (hb : 2 ≤ b) {c : Nat} (h : c < b) (h0 : c ≠ 0) : rep b c = [c] :=
  (eq_rep hb (Dig.cons h (Dig.nil _)) (by simpa [Top] using h0) (by simp [val])).symm
end Rep
def OwnR (E : TypeId) (f : Nat → Value) (B : Nat) (w : World) (a : Option Addr) (c : Nat) (xs : List Nat) : Prop :=
  c ≤ maxLen ∧ ((a = none ∧ c = 0 ∧ xs = []) ∨ ∃ g, a = some ⟨g, 0, none⟩ ∧ B ≤ g ∧ Row E w g c (xs.map f))
theorem Own.r {B : Nat} {w : World} {a : Option Addr} {c : Nat} {xs : List Nat} (h : Own B w a c xs) : OwnR 68 u32v B w a c xs := h
theorem OwnR.own {B : Nat} {w : World} {a : Option Addr} {c : Nat} {xs : List Nat} (h : OwnR 68 u32v B w a c xs) : Own B w a c xs := h
theorem OwnR.reads {E : TypeId} {f : Nat → Value} {B : Nat} {w : World} {a : Option Addr} {c : Nat} {xs : List Nat} (h : OwnR E f B w a c xs) : Reads w a (xs.map f) := by
  obtain ⟨_, ⟨rfl, rfl, rfl⟩ | ⟨g, rfl, hg, hr⟩⟩ := h
  · exact .inl rfl
  · exact hr.reads0
theorem OwnR.le {E : TypeId} {f : Nat → Value} {B : Nat} {w : World} {a : Option Addr} {c : Nat} {xs : List Nat} (h : OwnR E f B w a c xs) : xs.length ≤ c := by
  obtain ⟨_, ⟨rfl, rfl, rfl⟩ | ⟨g, rfl, hg, hr⟩⟩ := h
  · simp
  · simpa using hr.le
theorem OwnR.row {E : TypeId} {f : Nat → Value} {B : Nat} {w : World} {a : Option Addr} {c : Nat} {xs : List Nat} (h : OwnR E f B w a c xs) (hn : 0 < xs.length) : ∃ g, a = some ⟨g, 0, none⟩ ∧ B ≤ g ∧ Row E w g c (xs.map f) := by
  obtain ⟨_, ⟨rfl, rfl, rfl⟩ | h⟩ := h
  · simp at hn
  · exact h
theorem OwnR.kept {E : TypeId} {f : Nat → Value} {B : Nat} {w w' : World} {a : Option Addr} {c : Nat} {xs : List Nat} (h : OwnR E f B w a c xs) (hb : Below w.heap.size w w') : OwnR E f B w' a c xs := by
  obtain ⟨h1, h2 | ⟨g, rfl, hg, hr⟩⟩ := h
  · exact ⟨h1, .inl h2⟩
  · exact ⟨h1, .inr ⟨g, rfl, hg, hr.kept hb⟩⟩
theorem OwnR.mono {E : TypeId} {f : Nat → Value} {B B' : Nat} {w : World} {a : Option Addr} {c : Nat} {xs : List Nat} (h : OwnR E f B w a c xs) (hB : B' ≤ B) : OwnR E f B' w a c xs := by
  obtain ⟨h1, h2 | ⟨g, rfl, hg, hr⟩⟩ := h
  · exact ⟨h1, .inl h2⟩
  · exact ⟨h1, .inr ⟨g, rfl, Nat.le_trans hB hg, hr⟩⟩
theorem OwnR.grown {E : TypeId} {f : Nat → Value} {B : Nat} {w w' : World} {row : Option Nat} {a : Option Addr} {c : Nat} {xs : List Nat} (h : OwnR E f B w a c xs) (hg : w.grownBy w' row) (hne : a = none ∨ blk a ≠ row) : OwnR E f B w' a c xs := by
  obtain ⟨h1, h2 | ⟨g, rfl, hgB, hr⟩⟩ := h
  · exact ⟨h1, .inl h2⟩
  · rcases hne with hne | hne
    · cases hne
    · exact ⟨h1, .inr ⟨g, rfl, hgB, hr.grown hg hne⟩⟩
theorem OwnR.nil (E : TypeId) (f : Nat → Value) (B : Nat) (w : World) : OwnR E f B w none 0 [] := ⟨by simp [maxLen], .inl ⟨rfl, rfl, rfl⟩⟩
theorem OwnR.owns {E : TypeId} {f : Nat → Value} {B : Nat} {w : World} {a : Option Addr} {c : Nat} {xs : List Nat} (h : OwnR E f B w a c xs) : w.ownsRow B E 1 (.slice a xs.length c) xs.length (xs.map f) := by
  obtain ⟨h1, ⟨rfl, rfl, rfl⟩ | ⟨g, rfl, hg, hr⟩⟩ := h
  · exact ⟨rfl, .inl ⟨rfl, rfl⟩⟩
  · have := hr.own hg h1
    rwa [List.length_map] at this
theorem ownBlock_blk (a : Option Addr) (n c : Nat) : (Value.slice a n c).ownBlock = blk a := by
  cases a <;> rfl
theorem wpList_append_one {P : Program} (w : World) {ops : Array Oper} {rest : List Oper} {o : Oper} {a : Act} {Q : Exit → Act → World → Prop} (hgd : o.guard = none) (s x : Operand) (t : TypeId)
    (ho : o.op = .call { callee := .builtin .append, args := #[s, x], argTypes := #[t, t] }) (e : TypeId) (z : Value) (bts : Nat) (ht : P.underlying t = some (.slice e))
    (hi : (P.info? e).map (fun i => (i.zero, i.size, i.bytes)) = some (some z, 1, bts)) (hz1 : z.cells.size = 1)
    (f : Nat → Value) (B : Nat) (aa : Option Addr) (n cap : Nat) (xs : List Nat) (hs : a.eval s = .slice aa n cap) (hown : OwnR e f B w aa cap xs) (hn : xs.length = n)
    (ax : Addr) (c d : Nat) (hx : a.eval x = .slice (some ax) 1 c) (hr : w.cell? ax = some (f d)) (h1 : (f d).oneCell' = true)
    (hmax : n + 1 ≤ maxLen) (hb : (n + 1) * bts ≤ 140737488355328) (hB : B ≤ w.heap.size)
    (h : ∀ g' cap' w', Row e w' g' cap' ((xs ++ [d]).map f) → cap' ≤ maxLen → w.grownBy w' (blk aa) → B ≤ g' → wpList P ops Q rest (a.put o.dst (.slice (some ⟨g', 0, none⟩) (n + 1) cap')) w') : wpList P ops Q (o :: rest) a w := by
  obtain ⟨i, h2, h3, h4, h5⟩ := info_parts hi
  have hw := hown.owns
  rw [hn] at hw
  refine wpList_append_own w hgd s x t ho B e i z 1 bts ht h2 h3 h4 h5 hz1 (by decide) _ n (xs.map f) hs hw ax 1 c [f d] hx rfl ?_ (by simpa using h1) hmax hb hB ?_
  · intro j u hu
    rcases j with _ | j
    · simp only [List.getElem?_cons_zero, Option.some.injEq] at hu
      subst hu
      simpa [Addr.add] using hr
    · simp at hu
  · intro v' w' a1 a2 a3
    rw [ownBlock_blk] at a2
    obtain ⟨hl, ⟨e1, e2⟩ | ⟨g', cap', cur, rfl, hb', hh, hnc, hcm, hcs, htake⟩⟩ := a1
    · omega
    · refine h g' cap' w' ⟨cur, hh, by omega, ?_, ?_⟩ hcm a2 hb'
      · simp; omega
      · rw [List.map_append, List.length_append, List.length_map, hn]
        rw [Nat.mul_one] at htake
        exact htake
def GrowIn (w : World) (E : TypeId) (f : Nat → Value) (b t m B : Nat) (a : Option Addr) (cap : Nat) (xs : List Nat) (k c : Nat) (wr : World) : Prop :=
  ∃ Q : List Nat, OwnR E f B wr a cap Q ∧ Rep.Grow b t m xs Q k c ∧ w.grownBy wr (blk a)
theorem GrowIn.start {w : World} {E : TypeId} {f : Nat → Value} {b t m B cap : Nat} {a : Option Addr} {xs : List Nat} (hr : OwnR E f B w a cap xs) (hx : Dig b xs) (hm : m < t) : GrowIn w E f b t m B a cap xs 0 m w :=
  ⟨xs, hr, Rep.Grow.start hx hm, grown_refl _ _⟩
theorem GrowIn.step {w : World} {E : TypeId} {f : Nat → Value} {b t m B cap : Nat} {a : Option Addr} {xs : List Nat} {k c : Nat} {wr : World} (h : GrowIn w E f b t m B a cap xs k c wr) (hk : k < xs.length) (hb : 2 ≤ b) :
    ∃ g x : Nat, a = some ⟨g, 0, none⟩ ∧ xs.length ≤ cap ∧ x < b ∧ wr.cell? ⟨g, k, none⟩ = some (f x) ∧ wr.frozen? ⟨g, k, none⟩ = false ∧ c < t ∧ x * t + c < b * t ∧
      ∀ n q r : Nat, n = x * t + c → q = n / b → r = n % b → GrowIn w E f b t m B a cap xs (k + 1) q (wr.setCell ⟨g, k, none⟩ (f r)) := by
  obtain ⟨Q, h1, h2, h3⟩ := h
  have hlen : k < Q.length := by rw [h2.len]; exact hk
  have hx : Q.getD k 0 < b := h2.dig.getD k (by omega)
  have hle := h1.le
  rw [h2.len] at hle
  obtain ⟨g, rfl, hg, hr⟩ := h1.row (by omega)
  refine ⟨g, Q.getD k 0, rfl, hle, hx, hr.cell _ _ (map_getElem? hlen), hr.frozen _, h2.lt, ?_, ?_⟩
  · have h4 : (Q.getD k 0 + 1) * t ≤ b * t := Nat.mul_le_mul_right t hx
    rw [Nat.add_mul, Nat.one_mul] at h4
    have := h2.lt
    omega
  · intro n q r hn hq hr'
    subst hq hr'
    refine ⟨Q.set k (n % b), ⟨h1.1, .inr ⟨g, rfl, hg, ?_⟩⟩, h2.step hk hb hn, ⟨h3.os, h3.tape, h3.output, by have := h3.size; simpa [World.setCell] using this, fun j hj hne => ?_⟩⟩
    · have := hr.set k (f (n % b))
      rwa [← List.map_set] at this
    · rw [Below.heap_setCell _ _ _ _ (by simpa [blk] using hne)]
      exact h3.block j hj hne
theorem GrowIn.done {w : World} {E : TypeId} {f : Nat → Value} {b t m B cap : Nat} {a : Option Addr} {xs : List Nat} {c : Nat} {wr : World} (h : GrowIn w E f b t m B a cap xs xs.length c wr) (hb : 2 ≤ b) (hx : Dig b xs) (ht : Top xs) :
    ∃ Q : List Nat, OwnR E f B wr a cap Q ∧ Q.length = xs.length ∧ Q ++ rep b c = rep b (t * val b xs + m) ∧ c < t ∧ w.grownBy wr (blk a) := by
  obtain ⟨Q, h1, h2, h3⟩ := h
  exact ⟨Q, h1, h2.len, h2.done hb hx ht, h2.lt, h3⟩
theorem grownBy_trans_new {w w1 w2 : World} {row : Option Nat} (h : w.grownBy w1 row) (h2 : w1.grownBy w2 row) : w.grownBy w2 row :=
  ⟨h2.os.trans h.os, h2.tape.trans h.tape, h2.output.trans h.output, Nat.le_trans h.size h2.size, fun k hk hne => (h2.block k (Nat.lt_of_lt_of_le hk h.size) hne).trans (h.block k hk hne)⟩
end Go.Proofs.YtpjeecahaeaajaaGreatDoor

set_option linter.unusedVariables false
set_option linter.unusedSimpArgs false
namespace Go.Proofs.YtpjeecahaeaajaaGreatDoor
open Go.RowKit Rep
def digB (c : UInt8) : Bool := decide (48 ≤ c.toNat) && decide (c.toNat ≤ 57)
def isDigs (l : List UInt8) : Bool := decide (l.length ≠ 0) && decide (l.length ≤ 10000) && l.all digB
def numTxt (l : List UInt8) : Nat := l.foldl (fun n c => 10 * n + (c.toNat - 48)) 0
theorem cast_beq_no {n : Nat} (h : n ≠ 0) : ((n : Int) == 0) = false := by simp; omega
def GivesParse (b m : Nat) (o : Bool) (l : List UInt8) (w : World) (e : Ending) (w' : World) : Prop :=
  if (!o && isDigs l) = true then
    (if (L (numTxt l)).length ≤ m then ∃ a c, e = .returned (.tuple #[.slice a (L (numTxt l)).length c, .bool true]) ∧ NumAt w' a c (numTxt l) ∧ Bench w' b m o ∧ Below w.heap.size w w'
      else e = .returned (.tuple #[.slice none 0 0, .bool false]) ∧ Bench w' b m true ∧ w.grownBy w' (some b))
  else e = .returned (.tuple #[.slice none 0 0, .bool false]) ∧ w' = w
theorem GivesParse.fits {b m : Nat} {l : List UInt8} {w w' : World} {a : Option Addr} {c : Nat} (hd : isDigs l = true) (h : (L (numTxt l)).length ≤ m) (ho : Own w.heap.size w' a c (L (numTxt l))) (hb : Below w.heap.size w w') (hbe : Bench w' b m false) :
    GivesParse b m false l w (.returned (.tuple #[.slice a (L (numTxt l)).length c, .bool true])) w' := by
  unfold GivesParse
  rw [if_pos (by rw [hd]; rfl), if_pos h]
  exact ⟨a, c, rfl, ho.num, hbe, hb⟩
end Go.Proofs.YtpjeecahaeaajaaGreatDoor

set_option linter.unusedVariables false
set_option linter.unusedSimpArgs false
namespace Go.Proofs.YtpjeecahaeaajaaGreatDoor
open Go.RowKit Rep
theorem GivesBench.bench {m : Nat} {w : World} : Bench (w.alloc (.cells #[.int .i64 (m : Int), .bool false] 70)) w.heap.size m false := heap_alloc_new w _
structure Handed (w : World) (a : Option Addr) (c : Nat) (xs : List Nat) : Prop where
  lim : Lim xs
  reads : Reads w a (xs.map u32v)
  le : xs.length ≤ c
  cap : c ≤ maxLen
theorem Handed.inn {w : World} {a : Option Addr} {c : Nat} {xs : List Nat} (h : Handed w a c xs) (hl : xs.length ≤ 12) : NumIn w a c xs := ⟨h.lim, h.reads, h.le, h.cap, by omega⟩
theorem Handed.kept {w w' : World} {a : Option Addr} {c : Nat} {xs : List Nat} (h : Handed w a c xs) (hb : Below w.heap.size w w') : Handed w' a c xs := ⟨h.lim, h.reads.kept hb, h.le, h.cap⟩
def Holds (w : World) (e : Ending) (w' : World) : Prop := e = .returned (.bool true) ∧ Below w.heap.size w w'
set_option maxRecDepth 100000 in
set_option maxHeartbeats 400000 in
theorem Gcd_over (b m : Nat) (vx vy : Value) (n : Nat) (w : World) (h : Bench w b m true) :
    Calls Tryz.prog 79 #[.pointer (some ⟨b, 0, none⟩), vx, vy] w (GivesOut b m true n w) := by
  have h1 := h.c1
  have HG := Lib.hid (GivesOut.gone (n := n) h)
  clear h
  go_enter Tryz.func79, Tryz.ntmps79
  go_wp2_with fail
  go_ret
  exact HG.out
set_option maxRecDepth 100000 in
set_option maxHeartbeats 400000 in
theorem Div_over (b m : Nat) (ax ay : Option Addr) (xs ys : List Nat) (cx cy : Nat) (w : World) (h : Bench w b m true) (hx : NumIn w ax cx xs) (hy : NumIn w ay cy ys) :
    Calls Tryz.prog 80 #[.pointer (some ⟨b, 0, none⟩), .slice ax xs.length cx, .slice ay ys.length cy] w (Gives (.tuple #[.slice none 0 0, .slice none 0 0]) w) := by
  have h1 := h.c1
  clear h
  go_enter Tryz.func80, Tryz.ntmps80
  go_wp2_with fail
  refine (trim_num ax xs cx w hx.lim hx.reads hx.le hx.cap).mono ?_
  rintro e w' ⟨a1, c1, rfl, n1, rfl⟩
  go_wp2_with fail
  refine (trim_num ay ys cy w hy.lim hy.reads hy.le hy.cap).mono ?_
  rintro e w' ⟨a2, c2, rfl, n2, rfl⟩
  clear n1 n2 hx hy
  go_wp2_with fail
  go_ret2
  exact Gives.mk' rfl
theorem limbs1 (w : World) (x : Nat) (hx : x < 4294967296) : NumIn (w.alloc (.cells #[.int .u32 (x : Int)] 68)) (some ⟨w.heap.size, 0, none⟩) 1 [x] :=
  ⟨Dig.cons hx (Dig.nil _), by simpa [u32v] using (Row.new (E := 68) w #[.int .u32 (x : Int)]).reads0, by simp, by simp [maxLen], by simp⟩
theorem NumIn.bench {w w' : World} {b m : Nat} {o : Bool} {a : Option Addr} {c : Nat} {xs : List Nat} (h : NumIn w a c xs) (hb : Bench w b m o) (hg : w.grownBy w' (some b)) : NumIn w' a c xs :=
  ⟨h.lim, h.reads.grown hg (hb.apart h.reads), h.le, h.cap, h.len⟩
end Go.Proofs.YtpjeecahaeaajaaGreatDoor

set_option linter.unusedVariables false
set_option linter.unusedSimpArgs false
namespace Go.Proofs.YtpjeecahaeaajaaGreatDoor
open Go.RowKit Rep
set_option maxRecDepth 100000 in
set_option maxHeartbeats 1000000 in
theorem Same_any (a b : Option Addr) (c d : Nat) (xs ys : List Nat) (w : World) (ha : Reads w a (xs.map u32v)) (hb : Reads w b (ys.map u32v)) (hla : xs.length ≤ 1073741824) :
    Calls Tryz.prog 47 #[.slice a xs.length c, .slice b ys.length d] w (Draws (.bool (decide (xs = ys))) w) := by
  by_cases hl : xs.length = ys.length
  · go_enter Tryz.func47, Tryz.ntmps47
    have hne : ((xs.length : Int) != (ys.length : Int)) = false := by rw [hl]; simp
    go_wp2_with fail
    go_loopw [5] (fun i wr => ∃ k n : Nat, wr = w.drewN n ∧ k ≤ xs.length ∧ i = .int .i64 k ∧ xs.take k = ys.take k) (fun i _ => xs.length - (intOf i).toNat)
    case atStart => exact ⟨0, 0, rfl, Nat.zero_le _, rfl, rfl⟩
    case round =>
      obtain ⟨k, n, hw, hk, rfl, he⟩ := hrel
      have HE := Lib.hid he
      have ha' : Reads wr a (xs.map u32v) := by rw [hw]; exact ha
      have hb' : Reads wr b (ys.map u32v) := by rw [hw]; exact hb
      have HW := Lib.hid hw
      clear he hw
      by_cases hlt : k < xs.length
      · obtain ⟨g1, o1, rfl, hg1, hc1⟩ := ha'.open' (by rw [List.length_map]; omega)
        obtain ⟨g2, o2, rfl, hg2, hc2⟩ := hb'.open' (by rw [List.length_map]; omega)
        have hx := hc1 k _ (map_getElem? hlt)
        have hy := hc2 k _ (map_getElem? (xs := ys) (by omega))
        clear hc1 hc2 ha hb
        unfold u32v at hx hy
        have HX : Hid (xs[k]? = some (xs.getD k 0)) := Lib.hid (by rw [List.getElem?_eq_getElem hlt, getD_lt hlt])
        have HY : Hid (ys[k]? = some (ys.getD k 0)) := Lib.hid (by rw [List.getElem?_eq_getElem (by omega), getD_lt (by omega)])
        generalize xs.getD k 0 = x at *
        generalize ys.getD k 0 = y at *
        have hkx : (k : Int) < (xs.length : Int) := by omega
        have hky : (k : Int) < (ys.length : Int) := by omega
        by_cases hxy : x = y
        · subst hxy
          have hxx : ((x : Int) != (x : Int)) = false := by simp
          go_wp2_with fail
          go_quiet (fail)
          go_wp2_with fail
          go_roundw
          case rel => exact ⟨k + 1, n + nq, by rw [HW.out]; exact drewN_add _ _ _, by omega, by go_num, by rw [List.take_add_one, List.take_add_one, HE.out, HX.out, HY.out]⟩
          case measure => simp [intOf]; omega
        · have hxy' : ((x : Int) != (y : Int)) = true := by simp; omega
          have HN : Hid (decide (xs = ys) = false) := Lib.hid (decide_eq_false fun e => hxy (by have h1 := HX.out; rw [e, HY.out] at h1; exact (Option.some.inj h1).symm))
          rw [HN.out]
          go_wp2_with fail
          go_quiet (fail)
          go_wp2_with fail
          go_ret
          exact ⟨rfl, n + nq, by rw [HW.out]; exact drewN_add _ _ _⟩
      · obtain rfl : k = xs.length := by omega
        have HN : Hid (decide (xs = ys) = true) := Lib.hid (decide_eq_true (by have := HE.out; rwa [List.take_length, List.take_of_length_le (by omega)] at this))
        go_wp2_with fail
        go_ret
        exact ⟨by rw [HN.out]; rfl, n, HW.out⟩
  · have e : decide (xs = ys) = false := decide_eq_false fun e => hl (by rw [e])
    rw [e]
    clear e ha hb
    have hne : ((xs.length : Int) != (ys.length : Int)) = true := by simp; omega
    go_enter Tryz.func47, Tryz.ntmps47
    go_wp2_with fail
    go_ret
    exact ⟨rfl, 0, rfl⟩
set_option maxRecDepth 100000 in
set_option maxHeartbeats 1000000 in
theorem Cut_any (a : Option Addr) (c : Nat) (xs : List Nat) (w : World) (hr : Reads w a (xs.map i64v)) (hle : xs.length ≤ c) (hcap : c ≤ maxLen) :
    Calls Tryz.prog 64 #[.slice a xs.length c] w (Gives (.slice a (strip xs).length c) w) := by
  unfold maxLen at hcap
  rw [strip_length]
  go_enter Tryz.func64, Tryz.ntmps64
  go_wp2_with fail
  go_loop [3] (fun i => ∃ k : Nat, k ≤ xs.length ∧ i = .int .i64 k ∧ cutAt xs k = cutAt xs xs.length) (fun i => (intOf i).toNat)
  case atStart => exact ⟨xs.length, Nat.le_refl _, rfl, rfl⟩
  case round =>
    obtain ⟨k, hk, rfl, he⟩ := hrel
    have HE := Lib.hid he
    clear he
    cases k with
    | zero =>
      go_wp2_with fail
      go_ret
      exact Gives.mk' (by rw [← HE.out]; rfl)
    | succ k =>
      obtain ⟨g, off, rfl, hg, hcell⟩ := hr.open' (by rw [List.length_map]; omega)
      have hck := hcell k _ (map_getElem? (by omega))
      clear hcell
      unfold i64v at hck
      have HC : Hid (cutAt xs (k + 1) = if xs.getD k 0 = 0 then cutAt xs k else k + 1) := rfl
      generalize xs.getD k 0 = d at hck HC
      by_cases h0 : d = 0
      · subst h0
        go_wp2_with fail
        go_round
        case rel => exact ⟨k, by omega, by go_num, by rw [← HE.out, HC.out, if_pos rfl]⟩
        case measure => simp [intOf]
      · have hb : (((d : Nat) : Int) == 0) = false := cast_beq_no h0
        go_wp2_with fail
        go_ret
        exact Gives.mk' (by rw [← HE.out, HC.out, if_neg h0]; go_num)
end Go.Proofs.YtpjeecahaeaajaaGreatDoor

set_option linter.unusedVariables false
set_option linter.unusedSimpArgs false
namespace Go.Proofs.YtpjeecahaeaajaaGreatDoor
open Go.RowKit Rep
def PartAt (w : World) (g cap : Nat) (A P Z : List Nat) : Prop := Row 68 w g cap ((A ++ P ++ Z).map u32v)
theorem PartAt.cell {w : World} {g cap : Nat} {A P Z : List Nat} (h : PartAt w g cap A P Z) {j : Nat} (hj : j < P.length) : w.cell? ⟨g, A.length + j, none⟩ = some (.int .u32 (P.getD j 0 : Nat)) := by
  have h1 := Row.cell h (A.length + j) (u32v (P.getD j 0)) (by
    rw [List.map_append, List.map_append, List.append_assoc, List.getElem?_append_right (by simp), List.length_map, Nat.add_sub_cancel_left, List.getElem?_append_left (by simpa using hj), List.getElem?_map, List.getElem?_eq_getElem hj, getD_lt hj]
    rfl)
  exact h1
theorem PartAt.set {w : World} {g cap : Nat} {A P Z : List Nat} (h : PartAt w g cap A P Z) {j : Nat} (hj : j < P.length) (v : Nat) : PartAt (w.setCell ⟨g, A.length + j, none⟩ (u32v v)) g cap A (P.set j v) Z := by
  have h1 := Row.set h (A.length + j) (u32v v)
  unfold PartAt
  rwa [← List.map_set, List.append_assoc, List.set_append_right _ _ (by omega), Nat.add_sub_cancel_left, List.set_append_left _ _ hj, ← List.append_assoc] at h1
theorem PartAt.free {w : World} {g cap : Nat} {A P Z : List Nat} (h : PartAt w g cap A P Z) (i : Nat) : w.frozen? ⟨g, i, none⟩ = false := Row.frozen h i
theorem grownBy_set {w wr : World} {g i : Nat} {u : Value} (h : w.grownBy wr (some g)) : w.grownBy (wr.setCell ⟨g, i, none⟩ u) (some g) :=
  ⟨h.os, h.tape, h.output, by have := h.size; simpa [World.setCell] using this, fun k hk hne => by
    rw [Below.heap_setCell _ _ _ _ (by simpa using hne)]; exact h.block k hk hne⟩
def GiveIn (w : World) (g cap : Nat) (A P Z ys : List Nat) (k c : Nat) (wr : World) : Prop :=
  ∃ Q : List Nat, PartAt wr g cap A Q Z ∧ Q.length = P.length ∧ Lim Q ∧ V (Q.take k) + c * 4294967296 ^ k = V (P.take k) + V (ys.take k) ∧ (∀ j, k ≤ j → Q.getD j 0 = P.getD j 0) ∧ w.grownBy wr (some g)
theorem GiveIn.step {w wr : World} {g cap k c : Nat} {A P Z ys : List Nat} (h : GiveIn w g cap A P Z ys k c wr) (hk : k < P.length) (hky : k < ys.length) :
    ∃ x : Nat, x < 4294967296 ∧ wr.cell? ⟨g, A.length + k, none⟩ = some (.int .u32 (x : Int)) ∧ wr.frozen? ⟨g, A.length + k, none⟩ = false ∧ w.grownBy wr (some g) ∧
      ∀ T : Nat, T = c + (x + ys.getD k 0) → GiveIn w g cap A P Z ys (k + 1) (T / 4294967296) (wr.setCell ⟨g, A.length + k, none⟩ (.int .u32 ((T % 4294967296 : Nat) : Int))) := by
  obtain ⟨Q, h1, h2, h3, h4, h5, h6⟩ := h
  have hkQ : k < Q.length := by omega
  refine ⟨Q.getD k 0, h3.getD _ (by omega), h1.cell hkQ, h1.free _, h6, fun T hT => ?_⟩
  refine ⟨Q.set k (T % 4294967296), h1.set hkQ _, by simpa using h2, h3.set _ _ (Nat.mod_lt _ (by omega)), ?_, fun j hj => ?_, grownBy_set h6⟩
  · unfold V at h4 ⊢
    rw [take_succ_val _ (Q.set k _) k (by simpa using hkQ), take_succ_val _ P k hk, take_succ_val _ ys k hky, List.take_set_of_le (Nat.le_refl k), getD_set_self hkQ, ← h5 k (Nat.le_refl k), Nat.pow_succ]
    have h7 := Nat.mod_add_div T 4294967296
    have h8 : 4294967296 ^ k * (T % 4294967296) + T / 4294967296 * (4294967296 ^ k * 4294967296) = 4294967296 ^ k * T := by
      conv => rhs; rw [← h7, Nat.mul_add]
      congr 1
      ac_rfl
    have h9 : 4294967296 ^ k * T = c * 4294967296 ^ k + 4294967296 ^ k * Q.getD k 0 + 4294967296 ^ k * ys.getD k 0 := by
      rw [hT, Nat.mul_add, Nat.mul_add, Nat.mul_comm c]
      omega
    omega
  · rw [Rep.getD_set_ne (by omega)]
    exact h5 j (by omega)
def GivesBack (g cap : Nat) (A P Z : List Nat) (y n : Nat) (w : World) (w' : World) : Prop :=
  ∃ Q : List Nat, PartAt w' g cap A Q Z ∧ Q.length = P.length ∧ Lim Q ∧ V Q = (V P + y) % 4294967296 ^ (n + 1) ∧ w.grownBy w' (some g)
theorem give_done {w wr : World} {g cap n c : Nat} {A P Z ys : List Nat} (h : GiveIn w g cap A P Z ys n c wr) (hP : P.length = n + 1) (hy : ys.length = n) :
    ∃ x : Nat, x < 4294967296 ∧ wr.cell? ⟨g, A.length + n, none⟩ = some (.int .u32 (x : Int)) ∧ wr.frozen? ⟨g, A.length + n, none⟩ = false ∧
      ∀ z : Nat, z = (x + c) % 4294967296 → GivesBack g cap A P Z (V ys) n w (wr.setCell ⟨g, A.length + n, none⟩ (.int .u32 (z : Int))) := by
  obtain ⟨Q, h1, h2, h3, h4, h5, h6⟩ := h
  have hkQ : n < Q.length := by omega
  refine ⟨Q.getD n 0, h3.getD _ (by omega), h1.cell hkQ, h1.free _, fun z hz => ?_⟩
  have hzl : z < 4294967296 := by rw [hz]; exact Nat.mod_lt _ (by omega)
  refine ⟨Q.set n z, h1.set hkQ _, by simpa using h2, h3.set _ _ hzl, ?_, grownBy_set h6⟩
  have e1 : V (Q.set n z) = V (Q.take n) + 4294967296 ^ n * z := by
    unfold V
    conv => lhs; rw [← List.take_length (l := Q.set n z), List.length_set, h2, hP]
    rw [take_succ_val _ _ n (by simpa using hkQ), List.take_set_of_le (Nat.le_refl n), getD_set_self hkQ]
  have e2 : V P = V (P.take n) + 4294967296 ^ n * Q.getD n 0 := by
    unfold V
    conv => lhs; rw [← List.take_length (l := P), hP]
    rw [take_succ_val _ _ n (by omega), h5 n (Nat.le_refl n)]
  have h7 : V (ys.take n) = V ys := by rw [List.take_of_length_le (by omega)]
  have h8 : V (Q.set n z) < 4294967296 ^ (n + 1) := by
    have := val_lt (h3.set n z hzl)
    rw [List.length_set, h2, hP] at this
    exact this
  have h9 := Nat.mod_add_div (Q.getD n 0 + c) 4294967296
  rw [← hz] at h9
  have h10 : V P + V ys = V (Q.set n z) + 4294967296 ^ (n + 1) * ((Q.getD n 0 + c) / 4294967296) := by
    rw [e1, e2, ← h7, Nat.pow_succ]
    have h11 : 4294967296 ^ n * z + 4294967296 ^ n * 4294967296 * ((Q.getD n 0 + c) / 4294967296) = 4294967296 ^ n * (Q.getD n 0 + c) := by
      conv => rhs; rw [← h9, Nat.mul_add, ← Nat.mul_assoc]
    rw [Nat.mul_add] at h11
    have h12 : c * 4294967296 ^ n = 4294967296 ^ n * c := Nat.mul_comm _ _
    omega
  rw [h10, Nat.add_mul_mod_self_left, Nat.mod_eq_of_lt h8]
set_option maxRecDepth 100000 in
set_option maxHeartbeats 1000000 in
theorem giveBack_any (g cap c1 cy : Nat) (A P Z ys : List Nat) (ay : Option Addr) (w : World) (hp : PartAt w g cap A P Z) (hl : Lim P) (hlen : P.length = ys.length + 1) (hc1 : P.length ≤ c1) (hy : Lim ys) (ry : Reads w ay (ys.map u32v))
    (hne : ys.map u32v = [] ∨ ∀ g' off, ay = some ⟨g', off, none⟩ → some g' ≠ some g) (hb : ys.length ≤ 1073741824) :
    Calls Tryz.prog 121 #[.slice (some ⟨g, A.length, none⟩) P.length c1, .slice ay ys.length cy] w fun e w' => e = .returned (.tuple #[]) ∧ GivesBack g cap A P Z (V ys) ys.length w w' := by
  have HS : GiveIn w g cap A P Z ys 0 0 w := ⟨P, hp, rfl, hl, by simp [V, Rep.val], fun _ _ => rfl, grown_refl _ _⟩
  clear hp
  go_enter Tryz.func121, Tryz.ntmps121
  go_wp2_with fail
  go_loopw [4, 9] (fun cv iv wr => ∃ k c : Nat, k ≤ ys.length ∧ c ≤ 1 ∧ cv = .int .u64 c ∧ iv = .int .i64 k ∧ GiveIn w g cap A P Z ys k c wr) (fun _ iv _ => ys.length - (intOf iv).toNat)
  case atStart => exact ⟨0, 0, by omega, by omega, rfl, rfl, HS⟩
  case round =>
    obtain ⟨k, c, hk, hc, rfl, rfl, hin⟩ := hrel
    clear HS
    by_cases hlt : k < ys.length
    · obtain ⟨x, hx, hcx, hfx, hgr, hnext⟩ := hin.step (by omega) hlt
      have hY : ys.getD k 0 < 4294967296 := hy.getD k (by omega)
      obtain ⟨g2, off, rfl, hg2, hcell⟩ := (ry.grown hgr hne).open' (by rw [List.length_map]; omega)
      have hck := hcell k _ (map_getElem? (xs := ys) hlt)
      unfold u32v at hck
      clear hcell hin hgr
      generalize ys.getD k 0 = y at *
      obtain ⟨T, hT⟩ : ∃ T, T = c + (x + y) := ⟨_, rfl⟩
      have HN := Lib.hid (hnext T hT)
      have HTe : Hid ((c : Int) + ((x : Int) + (y : Int)) = (T : Int)) := Lib.hid (by omega)
      have hTc : T / 4294967296 ≤ 1 := by omega
      clear hnext hT
      have hkP : (k : Int) < (P.length : Int) := by omega
      go_wp2_with fail
      rw [HTe.out]
      go_roundw
      case rel => exact ⟨k + 1, T / 4294967296, by omega, hTc, by go_num, by go_num, HN.out⟩
      case measure => simp [intOf]; omega
    · obtain rfl : k = ys.length := by omega
      obtain ⟨x, hx, hcx, hfx, hfin⟩ := give_done hin hlen rfl
      have HF := Lib.hid hfin
      clear hin hfin
      have hkP : (ys.length : Int) < (P.length : Int) := by omega
      go_wp2_with fail
      go_end0
      exact ⟨rfl, HF.out _ rfl⟩
def TkIn (w : World) (g cap : Nat) (A P Z ys : List Nat) (t k c : Nat) (wr : World) : Prop :=
  ∃ Q : List Nat, PartAt wr g cap A Q Z ∧ Q.length = P.length ∧ Lim Q ∧ V (Q.take k) + t * V (ys.take k) = V (P.take k) + c * 4294967296 ^ k ∧ (∀ j, k ≤ j → Q.getD j 0 = P.getD j 0) ∧ w.grownBy wr (some g)
theorem TkIn.bound {w wr : World} {g cap t k c : Nat} {A P Z ys : List Nat} (h : TkIn w g cap A P Z ys t k c wr) (hy : Lim ys) (ht : t < 4294967296) : c < 4294967296 := by
  obtain ⟨Q, h1, h2, h3, h4, h5, h6⟩ := h
  have a1 : V (Q.take k) < 4294967296 ^ k := Nat.lt_of_lt_of_le (val_lt (h3.take k)) (Nat.pow_le_pow_right (by omega) (by rw [List.length_take]; omega))
  have a2 : V (ys.take k) < 4294967296 ^ k := Nat.lt_of_lt_of_le (val_lt (hy.take k)) (Nat.pow_le_pow_right (by omega) (by rw [List.length_take]; omega))
  have a3 : t * V (ys.take k) ≤ 4294967295 * 4294967296 ^ k := Nat.mul_le_mul (by omega) (Nat.le_of_lt a2)
  have a4 : c * 4294967296 ^ k < 4294967296 * 4294967296 ^ k := by omega
  exact Nat.lt_of_mul_lt_mul_right a4
theorem TkIn.step {w wr : World} {g cap k c t : Nat} {A P Z ys : List Nat} (h : TkIn w g cap A P Z ys t k c wr) (hk : k < P.length) (hky : k < ys.length) :
    ∃ x : Nat, x < 4294967296 ∧ wr.cell? ⟨g, A.length + k, none⟩ = some (.int .u32 (x : Int)) ∧ wr.frozen? ⟨g, A.length + k, none⟩ = false ∧ w.grownBy wr (some g) ∧
      ∀ z c' : Nat, z < 4294967296 → c + ys.getD k 0 * t + z = x + c' * 4294967296 → TkIn w g cap A P Z ys t (k + 1) c' (wr.setCell ⟨g, A.length + k, none⟩ (.int .u32 (z : Int))) := by
  obtain ⟨Q, h1, h2, h3, h4, h5, h6⟩ := h
  have hkQ : k < Q.length := by omega
  refine ⟨Q.getD k 0, h3.getD _ (by omega), h1.cell hkQ, h1.free _, h6, fun z c' hz he => ?_⟩
  refine ⟨Q.set k z, h1.set hkQ _, by simpa using h2, h3.set _ _ hz, ?_, fun j hj => ?_, grownBy_set h6⟩
  · unfold V at h4 ⊢
    rw [take_succ_val _ (Q.set k _) k (by simpa using hkQ), take_succ_val _ P k hk, take_succ_val _ ys k hky, List.take_set_of_le (Nat.le_refl k), getD_set_self hkQ, ← h5 k (Nat.le_refl k), Nat.pow_succ]
    have h7 : 4294967296 ^ k * (c + ys.getD k 0 * t + z) = 4294967296 ^ k * (Q.getD k 0 + c' * 4294967296) := by rw [he]
    simp only [Nat.mul_add] at h7 ⊢
    have e1 : 4294967296 ^ k * (ys.getD k 0 * t) = t * (4294967296 ^ k * ys.getD k 0) := by ac_rfl
    have e2 : 4294967296 ^ k * (c' * 4294967296) = c' * (4294967296 ^ k * 4294967296) := by ac_rfl
    have e3 : c * 4294967296 ^ k = 4294967296 ^ k * c := Nat.mul_comm _ _
    omega
  · rw [Rep.getD_set_ne (by omega)]
    exact h5 j (by omega)
theorem tk_done {w wr : World} {g cap n c t : Nat} {A P Z ys : List Nat} (h : TkIn w g cap A P Z ys t n c wr) (hP : P.length = n + 1) (hy : ys.length = n) :
    ∃ x : Nat, x < 4294967296 ∧ wr.cell? ⟨g, A.length + n, none⟩ = some (.int .u32 (x : Int)) ∧ wr.frozen? ⟨g, A.length + n, none⟩ = false ∧
      ∀ z b : Nat, z < 4294967296 → z + c = x + b * 4294967296 → ∃ Q : List Nat, PartAt (wr.setCell ⟨g, A.length + n, none⟩ (.int .u32 (z : Int))) g cap A Q Z ∧ Q.length = P.length ∧ Lim Q ∧ V Q + t * V ys = V P + b * 4294967296 ^ (n + 1) ∧
        w.grownBy (wr.setCell ⟨g, A.length + n, none⟩ (.int .u32 (z : Int))) (some g) := by
  obtain ⟨Q, h1, h2, h3, h4, h5, h6⟩ := h
  have hkQ : n < Q.length := by omega
  refine ⟨Q.getD n 0, h3.getD _ (by omega), h1.cell hkQ, h1.free _, fun z b hzl he => ?_⟩
  refine ⟨Q.set n z, h1.set hkQ _, by simpa using h2, h3.set _ _ hzl, ?_, grownBy_set h6⟩
  have e1 : V (Q.set n z) = V (Q.take n) + 4294967296 ^ n * z := by
    unfold V
    conv => lhs; rw [← List.take_length (l := Q.set n z), List.length_set, h2, hP]
    rw [take_succ_val _ _ n (by simpa using hkQ), List.take_set_of_le (Nat.le_refl n), getD_set_self hkQ]
  have e2 : V P = V (P.take n) + 4294967296 ^ n * Q.getD n 0 := by
    unfold V
    conv => lhs; rw [← List.take_length (l := P), hP]
    rw [take_succ_val _ _ n (by omega), h5 n (Nat.le_refl n)]
  have h7 : V (ys.take n) = V ys := by rw [List.take_of_length_le (by omega)]
  rw [h7] at h4
  have h8 : 4294967296 ^ n * (z + c) = 4294967296 ^ n * (Q.getD n 0 + b * 4294967296) := by rw [he]
  simp only [Nat.mul_add] at h8
  have h9 : 4294967296 ^ n * (b * 4294967296) = b * 4294967296 ^ (n + 1) := by rw [Nat.pow_succ]; ac_rfl
  have h10 : c * 4294967296 ^ n = 4294967296 ^ n * c := Nat.mul_comm _ _
  rw [e1, e2]
  omega
def TakesTimes (g cap : Nat) (A P Z : List Nat) (y : Nat) (w : World) (e : Ending) (w' : World) : Prop :=
  e = .returned (.int .u32 ((V P / y : Nat) : Int)) ∧ ∃ Q : List Nat, PartAt w' g cap A Q Z ∧ Q.length = P.length ∧ Lim Q ∧ V Q = V P % y ∧ w.grownBy w' (some g)
theorem times_exact {x y t q : Nat} (h : q + t * y = x) (hy : 0 < y) (h1 : x / y ≤ t) : t = x / y ∧ q = x % y := by
  have h2 := Nat.div_add_mod x y
  have h3 : t ≤ x / y := by rw [Nat.le_div_iff_mul_le hy]; omega
  have h4 : t = x / y := by omega
  refine ⟨h4, ?_⟩
  rw [h4, Nat.mul_comm] at h
  omega
theorem times_over {x y t q M : Nat} (h : q + t * y = x + M) (hy : 0 < y) (hq : q < M) (hM : y < M) (h2 : t ≤ x / y + 1) : t - 1 = x / y ∧ 1 ≤ t ∧ (q + y) % M = x % y := by
  have h3 := Nat.div_add_mod x y
  have h4 : ¬ t ≤ x / y := fun h => by
    have h5 : t * y ≤ x / y * y := Nat.mul_le_mul_right y h
    rw [Nat.mul_comm (x / y) y] at h5
    omega
  have h5 : t = x / y + 1 := by omega
  refine ⟨by rw [h5, Nat.add_sub_cancel], by rw [h5]; exact Nat.le_add_left _ _, ?_⟩
  rw [h5, Nat.add_mul, Nat.one_mul, Nat.mul_comm (x / y)] at h
  have h6 : q + y = x % y + M := by omega
  have h7 := Nat.mod_lt x hy
  rw [h6, Nat.add_mod_right, Nat.mod_eq_of_lt (by omega)]
set_option maxRecDepth 100000 in
set_option maxHeartbeats 2000000 in
theorem takeTimes_any (g cap c1 cy t : Nat) (A P Z ys : List Nat) (ay : Option Addr) (w : World) (hp : PartAt w g cap A P Z) (hl : Lim P) (hlen : P.length = ys.length + 1) (hc1 : P.length ≤ c1) (hy : Lim ys) (ry : Reads w ay (ys.map u32v))
    (hne : ys.map u32v = [] ∨ ∀ g' off, ay = some ⟨g', off, none⟩ → some g' ≠ some g) (hb : ys.length ≤ 1073741824) (ht : t < 4294967296) (hy0 : 0 < V ys) (hq1 : V P / V ys ≤ t) (hq2 : t ≤ V P / V ys + 1) :
    Calls Tryz.prog 113 #[.slice (some ⟨g, A.length, none⟩) P.length c1, .slice ay ys.length cy, .int .u32 (t : Int)] w (TakesTimes g cap A P Z (V ys) w) := by
  have HS : TkIn w g cap A P Z ys t 0 0 w := ⟨P, hp, rfl, hl, by simp [V, Rep.val], fun _ _ => rfl, grown_refl _ _⟩
  have HQ := Lib.hid (And.intro hy0 (And.intro hq1 hq2))
  clear hp hy0 hq1 hq2
  go_enter Tryz.func113, Tryz.ntmps113
  go_wp2_with fail
  go_loopw [7, 15] (fun cv iv wr => ∃ k c : Nat, k ≤ ys.length ∧ c < 4294967296 ∧ cv = .int .u64 c ∧ iv = .int .i64 k ∧ TkIn w g cap A P Z ys t k c wr) (fun _ iv _ => ys.length - (intOf iv).toNat)
  case atStart => exact ⟨0, 0, by omega, by omega, rfl, rfl, HS⟩
  case round =>
    obtain ⟨k, c, hk, hc, rfl, rfl, hin⟩ := hrel
    clear HS
    by_cases hlt : k < ys.length
    · obtain ⟨x, hx, hcx, hfx, hgr, hnext⟩ := hin.step (by omega) hlt
      have hY : ys.getD k 0 < 4294967296 := hy.getD k (by omega)
      obtain ⟨g2, off, rfl, hg2, hcell⟩ := (ry.grown hgr hne).open' (by rw [List.length_map]; omega)
      have hck := hcell k _ (map_getElem? (xs := ys) hlt)
      unfold u32v at hck
      clear hcell hin hgr
      generalize ys.getD k 0 = y at *
      have hyt : y * t ≤ 4294967295 * 4294967295 := Nat.mul_le_mul (by omega) (by omega)
      obtain ⟨T, hT⟩ : ∃ T, T = c + y * t := ⟨_, rfl⟩
      have hTb : T < 18446744073709551616 := by omega
      have HN := Lib.hid hnext
      have HTe : Hid ((c : Int) + (y : Int) * (t : Int) = (T : Int)) := Lib.hid (by rw [hT, Int.natCast_add, Int.natCast_mul])
      have HT := Lib.hid hT
      have hyt2 : y * t < 18446744073709551616 := by omega
      have hsum : c + y * t < 18446744073709551616 := by omega
      clear hnext hyt
      have hkP : (k : Int) < (P.length : Int) := by omega
      by_cases hxl : x < T % 4294967296
      · have hxl' : (x : Int) < ((c : Int) + (y : Int) * (t : Int)) % 4294967296 := by rw [HTe.out]; omega
        clear hT
        go_wp2_with fail
        rw [HTe.out]
        have e : ((x : Int) - (T : Int)) % 4294967296 = ((x + 4294967296 - T % 4294967296 : Nat) : Int) := by omega
        rw [e]
        have hn := HN.out (x + 4294967296 - T % 4294967296) (T / 4294967296 + 1) (by omega) (by have := HT.out; omega)
        go_roundw
        case rel => exact ⟨k + 1, T / 4294967296 + 1, by omega, hn.bound hy ht, by go_num, by go_num, hn⟩
        case measure => simp [intOf]; omega
      · have hxl' : ¬ (x : Int) < ((c : Int) + (y : Int) * (t : Int)) % 4294967296 := by rw [HTe.out]; omega
        clear hT
        go_wp2_with fail
        rw [HTe.out]
        have e : (x : Int) - (T : Int) % 4294967296 = ((x - T % 4294967296 : Nat) : Int) := by omega
        rw [e]
        have hn := HN.out (x - T % 4294967296) (T / 4294967296) (by omega) (by have := HT.out; omega)
        go_roundw
        case rel => exact ⟨k + 1, T / 4294967296, by omega, hn.bound hy ht, by go_num, by go_num, hn⟩
        case measure => simp [intOf]; omega
    · obtain rfl : k = ys.length := by omega
      obtain ⟨x, hx, hcx, hfx, hfin⟩ := tk_done hin hlen rfl
      have HF := Lib.hid hfin
      clear hin hfin
      have hkP : (ys.length : Int) < (P.length : Int) := by omega
      by_cases hxc : x < c
      · have hxc' : (x : Int) < (c : Int) := by omega
        have hcw : ((x : Int) - (c : Int)) % 4294967296 = ((x + 4294967296 - c : Nat) : Int) := by omega
        obtain ⟨Q, q1, q2, q3, q4, q5⟩ := HF.out (x + 4294967296 - c) 1 (by omega) (by omega)
        have hQ : V Q < 4294967296 ^ (ys.length + 1) := by have := val_lt q3; rw [q2, hlen] at this; exact this
        have hYM : V ys < 4294967296 ^ (ys.length + 1) := by
          have h1 : 4294967296 ^ ys.length ≤ 4294967296 ^ (ys.length + 1) := Nat.pow_le_pow_right (by omega) (by omega)
          have h2 : V ys < 4294967296 ^ ys.length := val_lt hy
          omega
        obtain ⟨e1, e2, e3⟩ := times_over (by rw [Nat.one_mul] at q4; exact q4) HQ.out.1 hQ hYM HQ.out.2.2
        have HG := Lib.hid (giveBack_any g cap c1 cy A Q Z ys ay _ q1 q3 (by rw [q2]; exact hlen) (by rw [q2]; exact hc1) hy (ry.grown q5 hne) hne hb)
        rw [q2] at HG
        have HE := Lib.hid (And.intro e1 (And.intro e3 q5))
        have HL := Lib.hid q2
        clear q1 q2 q3 q4 q5 hQ hYM e1 e3 HF HQ
        go_wp2_with fail
        rw [← hlen]
        refine HG.out.mono ?_
        rintro e w2 ⟨rfl, Q2, r1, r2, r3, r4, r5⟩
        rw [HE.out.2.1] at r4
        have HR := Lib.hid (And.intro r1 (And.intro (r2.trans HL.out) (And.intro r3 (And.intro r4 (grownBy_trans_new HE.out.2.2 r5)))))
        have ht1 : ((t : Int) - 1) = ((t - 1 : Nat) : Int) := by omega
        clear r1 r2 r3 r4 r5 HG
        go_wp2_with fail
        go_ret
        exact ⟨by rw [← HE.out.1]; rfl, Q2, HR.out.1, HR.out.2.1, HR.out.2.2.1, HR.out.2.2.2.1, HR.out.2.2.2.2⟩
      · have hxc' : ¬ (x : Int) < (c : Int) := by omega
        have hcw : (x : Int) - (c : Int) = ((x - c : Nat) : Int) := by omega
        obtain ⟨Q, q1, q2, q3, q4, q5⟩ := HF.out (x - c) 0 (by omega) (by omega)
        obtain ⟨e1, e2⟩ := times_exact (by rw [Nat.zero_mul, Nat.add_zero] at q4; exact q4) HQ.out.1 HQ.out.2.1
        have HE := Lib.hid (And.intro e1 (And.intro e2 (And.intro q1 (And.intro q2 (And.intro q3 q5)))))
        clear q1 q2 q3 q4 q5 e1 e2 HF HQ
        go_wp2_with fail
        go_ret
        exact ⟨by rw [← HE.out.1]; rfl, Q, HE.out.2.2.1, HE.out.2.2.2.1, HE.out.2.2.2.2.1, HE.out.2.1, HE.out.2.2.2.2.2⟩
end Go.Proofs.YtpjeecahaeaajaaGreatDoor

set_option linter.unusedVariables false
set_option linter.unusedSimpArgs false
namespace Go.Proofs.YtpjeecahaeaajaaGreatDoor
open Go.RowKit Rep
def GuessIn (U Y top f t r : Nat) : Prop := U / Y ≤ t ∧ t < 4294967296 ∧ t * f + r = top
theorem guess_start {U Y E top f s u2 u0 y0 : Nat} (hY : Y = (f * 4294967296 + s) * E + y0) (hU : U = (top * 4294967296 + u2) * E + u0) (hu0 : u0 < E) (hu2 : u2 < 4294967296) (hf : 0 < f) (hlt : U < 4294967296 * Y) :
    GuessIn U Y top f (min (top / f) 4294967295) (top - min (top / f) 4294967295 * f) := by
  have hE : 0 < E := by omega
  have hY0 : 0 < Y := by
    have : 0 < (f * 4294967296 + s) * E := Nat.mul_pos (by omega) hE
    omega
  have h1 : U / Y < 4294967296 := by rw [Nat.div_lt_iff_lt_mul hY0]; exact hlt
  have h2 : U / Y ≤ top / f := by
    rw [Nat.le_div_iff_mul_le hf]
    have h3 := Nat.div_mul_le_self U Y
    have h4 : U / Y * ((f * 4294967296) * E) ≤ U / Y * Y := Nat.mul_le_mul_left _ (by rw [hY, Nat.add_mul]; omega)
    have h5 : U < (top * 4294967296 + 4294967296) * E := by
      have h6 : (top * 4294967296 + u2 + 1) * E ≤ (top * 4294967296 + 4294967296) * E := Nat.mul_le_mul_right _ (by omega)
      rw [Nat.add_mul (top * 4294967296 + u2), Nat.one_mul] at h6
      omega
    have h7 : (U / Y * f) * (4294967296 * E) < (top + 1) * (4294967296 * E) := by
      have e1 : (U / Y * f) * (4294967296 * E) = U / Y * ((f * 4294967296) * E) := by ac_rfl
      have e2 : (top + 1) * (4294967296 * E) = (top * 4294967296 + 4294967296) * E := by rw [Nat.add_mul, Nat.add_mul, Nat.one_mul, Nat.mul_assoc]
      omega
    have := Nat.lt_of_mul_lt_mul_right h7
    omega
  have h8 : min (top / f) 4294967295 * f ≤ top := Nat.le_trans (Nat.mul_le_mul_right _ (Nat.min_le_left _ _)) (Nat.div_mul_le_self _ _)
  exact ⟨by omega, by omega, by omega⟩
theorem guess_step {U Y E top f s u2 u0 y0 t r : Nat} (h : GuessIn U Y top f t r) (hY : Y = (f * 4294967296 + s) * E + y0) (hU : U = (top * 4294967296 + u2) * E + u0) (hu0 : u0 < E) (hf : 0 < f) (hgt : r * 4294967296 + u2 < t * s) :
    1 ≤ t ∧ GuessIn U Y top f (t - 1) (r + f) := by
  obtain ⟨h1, h2, h3⟩ := h
  have hY0 : 0 < Y := by
    have : 0 < (f * 4294967296 + s) * E := Nat.mul_pos (by omega) (by omega)
    omega
  have h4 : top * 4294967296 + u2 + 1 ≤ t * (f * 4294967296 + s) := by
    rw [Nat.mul_add, ← Nat.mul_assoc, ← h3, Nat.add_mul]
    omega
  have h5 : (top * 4294967296 + u2 + 1) * E ≤ t * (f * 4294967296 + s) * E := Nat.mul_le_mul_right _ h4
  have h6 : U < t * Y := by
    rw [hY, Nat.mul_add, ← Nat.mul_assoc]
    rw [Nat.add_mul, Nat.one_mul] at h5
    omega
  have h7 : U / Y < t := by rw [Nat.div_lt_iff_lt_mul hY0]; exact h6
  have h8 : 1 ≤ t := Nat.lt_of_le_of_lt (Nat.zero_le _) h7
  refine ⟨h8, Nat.le_sub_one_of_lt h7, by omega, ?_⟩
  obtain ⟨t', rfl⟩ : ∃ t', t = t' + 1 := ⟨t - 1, by omega⟩
  rw [Nat.add_mul, Nat.one_mul] at h3
  rw [Nat.add_sub_cancel]
  omega
theorem guess_end {U Y E top f s u2 u0 y0 t r : Nat} (h : GuessIn U Y top f t r) (hY : Y = (f * 4294967296 + s) * E + y0) (hU : U = (top * 4294967296 + u2) * E + u0) (hu0 : u0 < E) (hy0 : y0 < E) (hs : s < 4294967296) (hf : 0 < f)
    (hle : 4294967296 ≤ r ∨ t * s ≤ r * 4294967296 + u2) : U / Y ≤ t ∧ t ≤ U / Y + 1 := by
  obtain ⟨h1, h2, h3⟩ := h
  have hY0 : 0 < Y := by
    have : 0 < (f * 4294967296 + s) * E := Nat.mul_pos (by omega) (by omega)
    omega
  have h4 : t * s ≤ r * 4294967296 + u2 := by
    rcases hle with h | h
    · have h5 : t * s ≤ 4294967296 * 4294967296 := Nat.mul_le_mul (by omega) (by omega)
      omega
    · exact h
  have h5 : t * (f * 4294967296 + s) ≤ top * 4294967296 + u2 := by
    rw [Nat.mul_add, ← Nat.mul_assoc, ← h3, Nat.add_mul]
    omega
  have h6 : t * (f * 4294967296 + s) * E ≤ (top * 4294967296 + u2) * E := Nat.mul_le_mul_right _ h5
  have h7 : t * y0 ≤ 4294967296 * E := Nat.mul_le_mul (by omega) (by omega)
  have h8 : 4294967296 * E ≤ (f * 4294967296 + s) * E := Nat.mul_le_mul_right _ (by omega)
  have h9 : t * Y ≤ U + Y := by
    conv => lhs; rw [hY, Nat.mul_add, ← Nat.mul_assoc]
    omega
  refine ⟨h1, ?_⟩
  rcases Nat.eq_zero_or_pos t with h0 | h0
  · rw [h0]; exact Nat.zero_le _
  · obtain ⟨t', rfl⟩ : ∃ t', t = t' + 1 := ⟨t - 1, by omega⟩
    rw [Nat.add_mul, Nat.one_mul] at h9
    have : t' ≤ U / Y := by rw [Nat.le_div_iff_mul_le hY0]; omega
    exact Nat.succ_le_succ this
def GivesGuess (q : Nat) (w : World) (e : Ending) (w' : World) : Prop := ∃ t n : Nat, e = .returned (.int .u32 (t : Int)) ∧ w' = w.drewN n ∧ q ≤ t ∧ t ≤ q + 1 ∧ t < 4294967296
theorem min_nat (a b : Nat) : min (a : Int) (b : Int) = ((min a b : Nat) : Int) := by omega
set_option maxRecDepth 100000 in
set_option maxHeartbeats 2000000 in
theorem guess_walk (g go off goy m c1 cy : Nat) (un u1 u2 f s U Y E u0 y0 : Nat) (w : World)
    (kn : w.cell? ⟨g, go + (m + 2), none⟩ = some (.int .u32 (un : Int))) (k1 : w.cell? ⟨g, go + (m + 1), none⟩ = some (.int .u32 (u1 : Int))) (k2 : w.cell? ⟨g, go + m, none⟩ = some (.int .u32 (u2 : Int)))
    (kf : w.cell? ⟨goy, off + (m + 1), none⟩ = some (.int .u32 (f : Int))) (ks : w.cell? ⟨goy, off + m, none⟩ = some (.int .u32 (s : Int)))
    (hun : un < 4294967296) (hu1 : u1 < 4294967296) (hu2 : u2 < 4294967296) (hf : f < 4294967296) (hs : s < 4294967296) (hf0 : 0 < f) (hm : m ≤ 1073741824) (hc1 : m + 3 ≤ c1) (hcy : m + 2 ≤ cy)
    (hY : Y = (f * 4294967296 + s) * E + y0) (hU : U = ((un * 4294967296 + u1) * 4294967296 + u2) * E + u0) (hu0 : u0 < E) (hy0 : y0 < E) (hlt : U < 4294967296 * Y) :
    Calls Tryz.prog 114 #[.slice (some ⟨g, go, none⟩) (m + 3) c1, .slice (some ⟨goy, off, none⟩) (m + 2) cy] w (GivesGuess (U / Y) w) := by
  obtain ⟨top, hor, htop, htb⟩ := or_step (r := un) (x := u1) hun hu1
  rw [← htop] at hU
  have HS := Lib.hid (guess_start hY hU hu0 hu2 hf0 hlt)
  have HM := Lib.hid (And.intro hY (And.intro hU (And.intro hu0 hy0)))
  clear hY hU hu0 hy0 hlt htop
  have hfz : ((f : Int) == 0) = false := cast_beq_no (by omega)
  have hmin : min ((top : Int) / (f : Int)) 4294967295 = ((min (top / f) 4294967295 : Nat) : Int) := min_nat _ _
  have HSM : Hid (min (top / f) 4294967295 * f ≤ top) := Lib.hid (Nat.le_trans (Nat.mul_le_mul_right _ (Nat.min_le_left _ _)) (Nat.div_mul_le_self _ _))
  generalize min (top / f) 4294967295 = t0 at *
  go_enter Tryz.func114, Tryz.ntmps114
  go_wp2_with fail
  go_quiet (fail)
  go_wp2_with fail
  go_quiet (fail)
  go_wp2_with fail
  obtain ⟨t0f, ht0f⟩ : ∃ x, x = t0 * f := ⟨_, rfl⟩
  have hwq : IntKind.u64.wrap ((top : Int) / (f : Int)) = (top : Int) / (f : Int) := by
    have h : (top : Int) / (f : Int) = ((top / f : Nat) : Int) := rfl
    have h2 : top / f ≤ top := Nat.div_le_self _ _
    exact IntWalk.u64_in _ (by rw [h]; omega)
  rw [hwq, hmin, show (t0 : Int) * (f : Int) = (t0f : Int) from by rw [ht0f, Int.natCast_mul]]
  rw [← ht0f] at HS
  have hle0 : t0f ≤ top := by
    have h := HSM.out
    rwa [← ht0f] at h
  rw [IntWalk.u64_in (t0f : Int) (by omega), IntWalk.u64_in ((top : Int) - (t0f : Int)) (by omega), show (top : Int) - (t0f : Int) = ((top - t0f : Nat) : Int) from by omega]
  clear ht0f
  go_loop [9, 10] (fun tv rv => ∃ t r : Nat, tv = .int .u64 t ∧ rv = .int .u64 r ∧ GuessIn U Y top f t r) (fun tv _ => (intOf tv).toNat)
  case atStart => exact ⟨t0, top - t0f, rfl, rfl, HS.out⟩
  case round =>
    obtain ⟨t, r, rfl, rfl, hg⟩ := hrel
    have hrt : r ≤ top := by have := hg.2.2; omega
    have htl := hg.2.1
    have HG := Lib.hid hg
    clear hg HS
    by_cases hr : r < 4294967296
    · have hz : (((r : Int) / 4294967296) == 0) = true := by simp; omega
      obtain ⟨W, hor2, hW, hWb⟩ := or_step (r := r) (x := u2) hr hu2
      have hts : t * s ≤ 4294967295 * 4294967295 := Nat.mul_le_mul (by omega) (by omega)
      have hts2 : t * s < 18446744073709551616 := by omega
      obtain ⟨X, hX⟩ : ∃ X, X = t * s := ⟨_, rfl⟩
      have hXe : Hid ((t : Int) * (s : Int) = (X : Int)) := Lib.hid (by rw [hX, Int.natCast_mul])
      have HX := Lib.hid (And.intro hX hW)
      clear hts hX hW
      by_cases hgt : W < X
      · have hgt' : (W : Int) < (t : Int) * (s : Int) := by rw [hXe.out]; omega
        have hgd : decide ((W : Int) < (t : Int) * (s : Int)) = true := decide_eq_true hgt'
        obtain ⟨ht1, hnext⟩ := guess_step HG.out HM.out.1 HM.out.2.1 HM.out.2.2.1 hf0 (by have := HX.out; omega)
        have HN := Lib.hid hnext
        clear hnext
        go_wp2_with fail
        go_round
        case rel => exact ⟨t - 1, r + f, by go_num, by go_num, HN.out⟩
        case measure => simp [intOf]; omega
      · have hgt' : ¬ (W : Int) < (t : Int) * (s : Int) := by rw [hXe.out]; omega
        have hgd : decide ((W : Int) < (t : Int) * (s : Int)) = false := decide_eq_false hgt'
        obtain ⟨e1, e2⟩ := guess_end HG.out HM.out.1 HM.out.2.1 HM.out.2.2.1 HM.out.2.2.2 hs hf0 (.inr (by have := HX.out; omega))
        have HE := Lib.hid (And.intro e1 e2)
        clear e1 e2
        go_wp2_with fail
        go_ret
        exact ⟨t, _, rfl, rfl, HE.out.1, HE.out.2, htl⟩
    · have hz : (((r : Int) / 4294967296) == 0) = false := by simp; omega
      obtain ⟨e1, e2⟩ := guess_end HG.out HM.out.1 HM.out.2.1 HM.out.2.2.1 HM.out.2.2.2 hs hf0 (.inl (by omega))
      have HE := Lib.hid (And.intro e1 e2)
      clear e1 e2
      go_wp2_with fail
      go_ret
      exact ⟨t, _, rfl, rfl, HE.out.1, HE.out.2, htl⟩
theorem split_two (l : List Nat) (m : Nat) (h : l.length = m + 2) : V l = (l.getD (m + 1) 0 * 4294967296 + l.getD m 0) * 4294967296 ^ m + V (l.take m) := by
  unfold V
  conv => lhs; rw [← List.take_length (l := l), h]
  rw [take_succ_val _ l (m + 1) (by omega), take_succ_val _ l m (by omega), Nat.pow_succ, Nat.add_mul]
  have e1 : 4294967296 ^ m * 4294967296 * l.getD (m + 1) 0 = l.getD (m + 1) 0 * 4294967296 * 4294967296 ^ m := by ac_rfl
  have e2 : 4294967296 ^ m * l.getD m 0 = l.getD m 0 * 4294967296 ^ m := Nat.mul_comm _ _
  omega
theorem split_three (l : List Nat) (m : Nat) (h : l.length = m + 3) : V l = ((l.getD (m + 2) 0 * 4294967296 + l.getD (m + 1) 0) * 4294967296 + l.getD m 0) * 4294967296 ^ m + V (l.take m) := by
  have h1 : V l = V (l.take (m + 2)) + 4294967296 ^ (m + 2) * l.getD (m + 2) 0 := by
    unfold V
    conv => lhs; rw [← List.take_length (l := l), h]
    rw [take_succ_val _ l (m + 2) (by omega)]
  have h2 := split_two (l.take (m + 2)) m (by rw [List.length_take]; omega)
  have e1 : (l.take (m + 2)).getD (m + 1) 0 = l.getD (m + 1) 0 := by simp [List.getD_eq_getElem?_getD, List.getElem?_take]
  have e2 : (l.take (m + 2)).getD m 0 = l.getD m 0 := by simp [List.getD_eq_getElem?_getD, List.getElem?_take]
  rw [e1, e2, List.take_take, Nat.min_eq_left (by omega)] at h2
  rw [h1, h2, Nat.add_mul (_ * _) (l.getD m 0), Nat.add_mul (_ * _) (l.getD m 0), Nat.add_mul (_ * _) (l.getD (m + 1) 0)]
  have e3 : 4294967296 ^ (m + 2) * l.getD (m + 2) 0 = l.getD (m + 2) 0 * 4294967296 * 4294967296 * 4294967296 ^ m := by rw [show m + 2 = m + 1 + 1 from rfl, Nat.pow_succ, Nat.pow_succ]; ac_rfl
  simp only [Nat.add_mul]
  omega
theorem guess_any (g cap c1 cy goy m : Nat) (A P Z ys : List Nat) (w : World) (hp : PartAt w g cap A P Z) (hl : Lim P) (hlen : P.length = m + 3) (hc1 : m + 3 ≤ c1) (hcy : m + 2 ≤ cy) (hy : Lim ys) (hylen : ys.length = m + 2)
    (ry : Reads w (some ⟨goy, 0, none⟩) (ys.map u32v)) (hb : m ≤ 1073741824) (htop : 0 < ys.getD (m + 1) 0) (hlt : V P < 4294967296 * V ys) :
    Calls Tryz.prog 114 #[.slice (some ⟨g, A.length, none⟩) (m + 3) c1, .slice (some ⟨goy, 0, none⟩) (m + 2) cy] w (GivesGuess (V P / V ys) w) := by
  obtain ⟨gy, off, he, hgy, hcell⟩ := ry.open' (by rw [List.length_map]; omega)
  cases he
  refine guess_walk g A.length 0 goy m c1 cy (P.getD (m + 2) 0) (P.getD (m + 1) 0) (P.getD m 0) (ys.getD (m + 1) 0) (ys.getD m 0) (V P) (V ys) (4294967296 ^ m) (V (P.take m)) (V (ys.take m)) w
    (hp.cell (by omega)) (hp.cell (by omega)) (hp.cell (by omega)) (hcell _ _ (map_getElem? (xs := ys) (by omega))) (hcell _ _ (map_getElem? (xs := ys) (by omega)))
    (hl.getD _ (by omega)) (hl.getD _ (by omega)) (hl.getD _ (by omega)) (hy.getD _ (by omega)) (hy.getD _ (by omega)) htop hb hc1 hcy (split_two ys m hylen) (split_three P m hlen) ?_ ?_ hlt
  · have := val_lt (hl.take m)
    rwa [List.length_take, Nat.min_eq_left (by omega)] at this
  · have := val_lt (hy.take m)
    rwa [List.length_take, Nat.min_eq_left (by omega)] at this
end Go.Proofs.YtpjeecahaeaajaaGreatDoor

set_option linter.unusedVariables false
set_option linter.unusedSimpArgs false
namespace Go.Proofs.YtpjeecahaeaajaaGreatDoor
open Go.RowKit Rep
theorem val_drop (ds : List Nat) (k : Nat) (h : k < ds.length) : val 10 (ds.drop k) = 10 * val 10 (ds.drop (k + 1)) + ds.getD k 0 := by
  rw [List.drop_eq_getElem_cons h, val_cons, getD_lt h, Nat.add_comm]
theorem L_val_len (ds : List Nat) (hd : Dig 10 ds) : (L (val 10 ds)).length ≤ ds.length :=
  (L_len _ _).2 (Nat.lt_of_lt_of_le (val_lt hd) (Nat.pow_le_pow_left (by omega) _))
theorem OwnR.blk_ge {E : TypeId} {f : Nat → Value} {B : Nat} {w : World} {a : Option Addr} {c : Nat} {xs : List Nat} (h : OwnR E f B w a c xs) {g : Nat} (hg : blk a = some g) : B ≤ g := by
  obtain ⟨_, ⟨rfl, _⟩ | ⟨g', rfl, hB, _⟩⟩ := h
  · cases hg
  · cases hg; exact hB
def LimbsIn (w : World) (ds : List Nat) (k : Nat) (ov : Value) (wr : World) : Prop :=
  ∃ (a : Option Addr) (c : Nat), ov = .slice a (L (val 10 (ds.drop k))).length c ∧ Own w.heap.size wr a c (L (val 10 (ds.drop k))) ∧ Below w.heap.size w wr
set_option maxRecDepth 100000 in
set_option maxHeartbeats 2000000 in
theorem Limbs_any (a : Option Addr) (c : Nat) (ds : List Nat) (w : World) (hr : Reads w a (ds.map i64v)) (hd : Dig 10 ds) (hl : ds.length ≤ 1073741824) :
    Calls Tryz.prog 49 #[.slice a ds.length c] w (GivesOwn (L (val 10 ds)) w) := by
  have HS : LimbsIn w ds ds.length (.slice (some ⟨w.heap.size, 0, none⟩) 0 0) (w.alloc (.cells #[] 68)) := by
    refine ⟨some ⟨w.heap.size, 0, none⟩, 0, by simp [val, L_zero], ⟨by simp [maxLen], .inr ⟨w.heap.size, rfl, Nat.le_refl _, ?_⟩⟩, (Below.refl _ _).alloc (Nat.le_refl _) _⟩
    rw [List.drop_length, show val 10 [] = 0 from rfl, L_zero]
    exact Row.new (E := 68) w #[]
  go_enter Tryz.func49, Tryz.ntmps49
  go_wp2_with fail
  go_loopw [3, 4] (fun ov iv wr => ∃ k : Nat, k ≤ ds.length ∧ iv = .int .i64 ((k : Int) - 1) ∧ LimbsIn w ds k ov wr) (fun _ iv _ => (intOf iv + 1).toNat)
  case atStart => exact ⟨ds.length, Nat.le_refl _, rfl, HS⟩
  case round =>
    obtain ⟨k, hk, rfl, a1, c1, rfl, ho, hB⟩ := hrel
    clear HS
    cases k with
    | zero =>
      rw [List.drop_zero] at ho ⊢
      go_wp2_with fail
      go_ret
      exact ⟨a1, c1, rfl, ho, hB⟩
    | succ k =>
      have hr' := hr.kept hB
      obtain ⟨g, off, rfl, hg, hcell⟩ := hr'.open' (by rw [List.length_map]; omega)
      have hck := hcell k _ (map_getElem? (xs := ds) (by omega))
      have HV := Lib.hid (val_drop ds k (by omega))
      have hll : (L (val 10 (ds.drop (k + 1)))).length ≤ ds.length := by
        have := L_val_len (ds.drop (k + 1)) (hd.drop _)
        rw [List.length_drop] at this
        omega
      have hdl : ds.getD k 0 < 10 := hd.getD k (by omega)
      clear hcell hr'
      unfold i64v at hck
      generalize ds.getD k 0 = d at *
      generalize hN : val 10 (ds.drop (k + 1)) = N at *
      clear hN
      rw [show (((k + 1 : Nat) : Int) - 1) = (k : Int) from by omega]
      have HG : GrowIn wr 68 u32v 4294967296 10 d w.heap.size a1 c1 (L N) 0 d wr := GrowIn.start ho.r (L_lim N) hdl
      have HB := Lib.hid hB
      clear ho hB
      go_wp2_with fail
      obtain ⟨wo, rfl⟩ : ∃ wo : World, wo = wr := ⟨_, rfl⟩
      go_loopw [5, 6] (fun cv jv wr => ∃ j cy : Nat, j ≤ (L N).length ∧ jv = .int .i64 j ∧ cv = .int .u64 cy ∧ cy < 10 ∧ GrowIn wo 68 u32v 4294967296 10 d w.heap.size a1 c1 (L N) j cy wr) (fun _ jv _ => (L N).length - (intOf jv).toNat)
      case atStart => exact ⟨0, d, by omega, rfl, rfl, hdl, HG⟩
      case round =>
        obtain ⟨j, cy, hj, rfl, rfl, hcy, hin⟩ := hrel
        clear HG
        by_cases hlt : j < (L N).length
        · obtain ⟨g1, x, rfl, hle, hx, hcx, hfr, _, hb, hnext⟩ := hin.step hlt (by omega)
          have hnx := hnext (x * 10 + cy) ((x * 10 + cy) / 4294967296) ((x * 10 + cy) % 4294967296) rfl rfl rfl
          have HN := Lib.hid hnx
          clear hnext hin hnx
          unfold u32v at hcx
          go_wp2_with fail
          go_roundw
          case rel => exact ⟨j + 1, (x * 10 + cy) / 4294967296, by omega, by go_num, by go_num, by omega, HN.out⟩
          case measure => simp [intOf] <;> omega
        · obtain rfl : j = (L N).length := by omega
          obtain ⟨Q, hQ, hQl, hQe, hct', hg⟩ := hin.done (by omega) (L_lim N) (rep_top (by omega) N)
          rw [show val 4294967296 (L N) = N from V_L N] at hQe
          clear hin
          have hB2 : Below w.heap.size w wr := HB.out.grown hg HB.out.size (fun k hk => hQ.blk_ge hk)
          rcases Nat.eq_zero_or_pos cy with h0 | h0
          · subst h0
            rw [rep_zero, List.append_nil] at hQe
            have HQ := Lib.hid (And.intro hQ (And.intro hB2 hQe))
            clear hQ hg hQe hB2
            go_wp2_with fail
            go_roundw
            case rel =>
              refine ⟨k, by omega, rfl, a1, c1, ?_, ?_, HQ.out.2.1⟩
              · rw [HV.out, ← hQl, HQ.out.2.2]; rfl
              · rw [HV.out]
                have h := HQ.out.1.own
                rw [HQ.out.2.2] at h
                exact h
            case measure => simp [intOf] <;> omega
          · have hc0 : (0 : Int) < (cy : Int) := by omega
            have hQ1 := hQ.kept ((Below.refl wr.heap.size wr).alloc (Nat.le_refl _) (.cells #[.int .u32 (cy : Int)] 68))
            have hcell : (wr.alloc (.cells #[.int .u32 (cy : Int)] 68)).cell? ⟨wr.heap.size, 0, none⟩ = some (u32v cy) := (Row.new (E := 68) wr #[.int .u32 (cy : Int)]).cell 0 _ rfl
            have HQ := Lib.hid (And.intro hQe (And.intro hB2 (fun g => hQ.blk_ge (g := g))))
            have hsz : w.heap.size ≤ wr.heap.size := hB2.size
            clear hQ hg hQe hB2
            go_wp2_with (first | (at_builtin; refine wpList_append_one _ rfl (.tmp 45) (.tmp 48) 23 rfl 68 (.int .u32 0) 4 Tryz.underlying23 Tryz.info48 rfl u32v w.heap.size a1 _ _ Q rfl hQ1 hQl ⟨wr.heap.size, 0, none⟩ 1 cy rfl hcell rfl (by unfold maxLen; omega) (by omega) (by simp <;> omega) ?_; intro g' cap' w' hrow' hcap hgrow hg') | fail)
            have e : Q ++ [cy] = L (10 * N + d) := by rw [← Rep.rep_small (b := 4294967296) (by omega) (by omega) (by omega)]; exact HQ.out.1
            have hB3 : Below w.heap.size w w' := (HQ.out.2.1.alloc HQ.out.2.1.size _).grown hgrow (by simp <;> omega) (fun k hk => HQ.out.2.2 k hk)
            rw [e] at hrow'
            have hlen : (L N).length + 1 = (L (10 * N + d)).length := by rw [← e, List.length_append, hQl]; rfl
            have HR := Lib.hid (And.intro hrow' (And.intro hB3 hlen))
            clear hrow' hB3 hlen hgrow hQ1 hcell e
            go_wp2_with fail
            go_roundw
            case rel =>
              refine ⟨k, by omega, rfl, some ⟨g', 0, none⟩, cap', ?_, ?_, HR.out.2.1⟩
              · rw [HV.out, ← HR.out.2.2]
              · rw [HV.out]
                exact ⟨hcap, .inr ⟨g', rfl, hg', HR.out.1⟩⟩
            case measure => simp [intOf] <;> omega
end Go.Proofs.YtpjeecahaeaajaaGreatDoor
