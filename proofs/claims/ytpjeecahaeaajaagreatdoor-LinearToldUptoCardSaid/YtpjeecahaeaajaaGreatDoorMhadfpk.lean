/- By program out of: DigDiv. -/
import Derived.Test.YtpjeecahaeaajaaGreatDoorMgpjold
import Derived.Test.YtpjeecahaeaajaaGreatDoorMbbaeag
set_option linter.unusedVariables false
set_option linter.unusedSimpArgs false
namespace Go.Proofs.YtpjeecahaeaajaaGreatDoor
open Go.RowKit Rep
structure DivDAt (w : World) (lx k : Nat) (Q : List Nat) (wr : World) : Prop where
  row : Row 3 wr w.heap.size lx (Q.map i64v)
  len : Q.length = lx
  dig : Dig 10 Q
  zero : ∀ j, j < k → Q.getD j 0 = 0
  below : Below w.heap.size w wr
theorem DivDAt.kept {w wr w' : World} {lx k : Nat} {Q : List Nat} (h : DivDAt w lx k Q wr) (hb : Below wr.heap.size wr w') : DivDAt w lx k Q w' :=
  ⟨h.row.kept hb, h.len, h.dig, h.zero, h.below.trans (hb.mono h.below.size)⟩
theorem DivDAt.start (w : World) (lx : Nat) : DivDAt w lx lx (List.replicate lx 0) (w.alloc (.cells (zrow .i64 lx) 3)) := by
  refine ⟨?_, by simp, Dig.replicate _ _ _ (by omega), fun j _ => ?_, (Below.refl _ _).alloc (Nat.le_refl _) _⟩
  · have := Row.zrow (E := 3) .i64 w lx
    rw [List.map_replicate]
    exact this
  · simp [List.getD_eq_getElem?_getD, List.getElem?_replicate]; split <;> rfl
def RestAt (w wr : World) (a : Option Addr) (c R : Nat) : Prop := DAt wr a c R ∧ (R = 0 ∨ ∀ g off, a = some ⟨g, off, none⟩ → w.heap.size + 1 ≤ g)
theorem RestAt.set {w wr : World} {a : Option Addr} {c R i : Nat} (h : RestAt w wr a c R) (u : Value) : RestAt w (wr.setCell ⟨w.heap.size, i, none⟩ u) a c R := by
  refine ⟨⟨?_, h.1.2⟩, h.2⟩
  rcases h.2 with h0 | h0
  · subst h0; exact .inl rfl
  · exact h.1.1.grown (row := some w.heap.size) ⟨rfl, rfl, rfl, by simp [World.setCell], fun k hk hne => by rw [Below.heap_setCell _ _ _ _ (by simpa using hne)]⟩ (.inr fun g off e => by have := h0 g off e; simp; omega)
def DivDOut (w : World) (xs : List Nat) (M k R : Nat) (wr : World) : Prop := ∃ Q, DivDAt w xs.length k Q wr ∧ val 10 (xs.drop k) = val 10 (Q.drop k) * M + R ∧ R < M
def DivDIn (w : World) (xs : List Nat) (M i t R : Nat) (wr : World) : Prop := ∃ Q, DivDAt w xs.length i Q wr ∧ Q.getD i 0 = t ∧ val 10 (xs.drop i) = val 10 (Q.drop i) * M + R ∧ t * M + R < 10 * M
theorem DivDOut.enter {w wr : World} {xs : List Nat} {M i R : Nat} (h : DivDOut w xs M (i + 1) R wr) (hi : i < xs.length) (hx : Dig 10 xs) : DivDIn w xs M i 0 (xs.getD i 0 + 10 * R) wr := by
  obtain ⟨Q, h1, h2, h3⟩ := h
  have hx1 : xs.getD i 0 < 10 := hx.getD i (by omega)
  refine ⟨Q, ⟨h1.row, h1.len, h1.dig, fun j hj => h1.zero j (by omega), h1.below⟩, h1.zero i (by omega), ?_, by omega⟩
  rw [drop_cons 10 xs i hi, drop_cons 10 Q i (by rw [h1.len]; exact hi), h1.zero i (by omega), h2, Nat.zero_add, Nat.mul_add, Nat.mul_assoc]
  omega
theorem DivDIn.step {w wr : World} {xs : List Nat} {M i t R : Nat} (h : DivDIn w xs M i t R wr) (hi : i < xs.length) (hle : M ≤ R) :
    t < 9 ∧ wr.cell? ⟨w.heap.size, i, none⟩ = some (.int .i64 (t : Int)) ∧ wr.frozen? ⟨w.heap.size, i, none⟩ = false ∧ DivDIn w xs M i (t + 1) (R - M) (wr.setCell ⟨w.heap.size, i, none⟩ (.int .i64 ((t + 1 : Nat) : Int))) := by
  obtain ⟨Q, h1, h2, h3, h4⟩ := h
  have hM : 0 < M := by
    rcases Nat.eq_zero_or_pos M with e | e
    · rw [e, Nat.mul_zero] at h4; omega
    · exact e
  have ht : t < 9 := by
    have h5 : (t + 1) * M < 10 * M := by rw [Nat.add_mul]; omega
    have := Nat.lt_of_mul_lt_mul_right h5
    omega
  have hil : i < Q.length := by rw [h1.len]; exact hi
  have hc := h1.row.cell _ _ (map_getElem? (f := i64v) hil)
  rw [h2] at hc
  refine ⟨ht, hc, h1.row.frozen _, Q.set i (t + 1), ⟨?_, by simpa using h1.len, h1.dig.set _ _ (by omega), fun j hj => ?_, h1.below.setCell (Nat.le_refl _) _⟩, getD_set_self hil, ?_, by rw [Nat.add_mul]; omega⟩
  · have := h1.row.set i (i64v (t + 1))
    rw [← List.map_set] at this
    exact this
  · rw [Rep.getD_set_ne (by omega)]; exact h1.zero j hj
  · have e1 := drop_cons 10 Q i hil
    have e2 := drop_cons 10 (Q.set i (t + 1)) i (by simpa using hil)
    have e4 : (Q.set i (t + 1)).drop (i + 1) = Q.drop (i + 1) := List.drop_set_of_lt (by omega)
    rw [getD_set_self hil, e4] at e2
    rw [h2] at e1
    have e3 : val 10 ((Q.set i (t + 1)).drop i) = val 10 (Q.drop i) + 1 := by omega
    rw [e3, Nat.add_mul, h3]
    omega
theorem DivDIn.leave {w wr : World} {xs : List Nat} {M i t R : Nat} (h : DivDIn w xs M i t R wr) (hlt : R < M) : DivDOut w xs M i R wr := by
  obtain ⟨Q, h1, h2, h3, h4⟩ := h
  exact ⟨Q, h1, h3, hlt⟩
theorem DivDIn.kept {w wr w' : World} {xs : List Nat} {M i t R : Nat} (h : DivDIn w xs M i t R wr) (hb : Below wr.heap.size wr w') : DivDIn w xs M i t R w' := by
  obtain ⟨Q, h1, h2⟩ := h
  exact ⟨Q, h1.kept hb, h2⟩
theorem DivDOut.kept {w wr w' : World} {xs : List Nat} {M i R : Nat} (h : DivDOut w xs M i R wr) (hb : Below wr.heap.size wr w') : DivDOut w xs M i R w' := by
  obtain ⟨Q, h1, h2⟩ := h
  exact ⟨Q, h1.kept hb, h2⟩
theorem DivDOut.below {w wr : World} {xs : List Nat} {M i R : Nat} (h : DivDOut w xs M i R wr) : Below w.heap.size w wr ∧ w.heap.size + 1 ≤ wr.heap.size := by
  obtain ⟨Q, h1, h2⟩ := h
  exact ⟨h1.below, h1.row.lt⟩
theorem DivDIn.below {w wr : World} {xs : List Nat} {M i t R : Nat} (h : DivDIn w xs M i t R wr) : Below w.heap.size w wr ∧ w.heap.size + 1 ≤ wr.heap.size := by
  obtain ⟨Q, h1, h2⟩ := h
  exact ⟨h1.below, h1.row.lt⟩
def GivesDivD (q r : Nat) (w : World) (e : Ending) (w' : World) : Prop :=
  ∃ a1 c1 a2 c2, e = .returned (.tuple #[.slice a1 (D q).length c1, .slice a2 (D r).length c2]) ∧ DAt w' a1 c1 q ∧ DAt w' a2 c2 r ∧ Below w.heap.size w w'
theorem next_cut {w wr w2 : World} {xs : List Nat} {M i R g' cap' x : Nat} (h : DivDOut w xs M (i + 1) R wr) (hi : i < xs.length) (hx : Dig 10 xs) (hxe : x = xs.getD i 0) (hrow : Row 3 w2 g' cap' (([x] ++ D R).map i64v)) (hcap : cap' ≤ maxLen) (hb : Below wr.heap.size wr w2) (hg : wr.heap.size ≤ g') :
    Calls Tryz.prog 64 #[.slice (some ⟨g', 0, none⟩) ((D R).length + 1) cap'] w2 fun e w3 => ∃ a c U, e = .returned (.slice a (D U).length c) ∧ Hid (RestAt w w3 a c U ∧ DivDIn w xs M i 0 U w3 ∧ (D U).length ≤ (D R).length + 1) := by
  have hx1 : x < 10 := by rw [hxe]; exact hx.getD i (by omega)
  have hd : Dig 10 ([x] ++ D R) := Dig.cons hx1 (D_dig R)
  have hv : val 10 ([x] ++ D R) = x + 10 * R := by rw [List.singleton_append, val_cons, val_D]
  have hs := h.below
  have hle : ([x] ++ D R).length ≤ cap' := by have := hrow.le; simpa using this
  have hcl : (D (x + 10 * R)).length ≤ (D R).length + 1 := by
    rw [D_len]
    have := val_lt (D_dig R)
    rw [val_D] at this
    rw [Nat.pow_succ]
    omega
  have := cut_D (B := wr.heap.size) (w := wr) hrow.reads0 hle hcap hd hv hb (.inr fun g off e => by cases e; exact hg)
  rw [show ([x] ++ D R).length = (D R).length + 1 from by simp] at this
  refine this.mono ?_
  rintro e w3 ⟨a, c, rfl, hD, hb3, hn⟩
  refine ⟨a, c, x + 10 * R, rfl, Lib.hid ⟨⟨hD, hn.imp id fun h g off e => Nat.le_trans hs.2 (h g off e)⟩, ?_, hcl⟩⟩
  have := h.enter hi hx
  rw [← hxe] at this
  exact this.kept hb3
theorem sub_round {w wr : World} {xs : List Nat} {M i t R cy : Nat} {ay a : Option Addr} {c : Nat} (h : DivDIn w xs M i t R wr) (hr : RestAt w wr a c R) (hy : DAt w ay cy M) (lr : (D R).length ≤ 1073741824) (ly : (D M).length ≤ 1073741824) (hi : i < xs.length) (nd : Nat) (hle : M ≤ R) (t1 : Nat) (ht1 : t1 = t + 1) :
    t < 9 ∧ Hid (Calls Tryz.prog 68 #[.slice a (D R).length c, .slice ay (D M).length cy] (wr.drewN nd) fun e w3 => ∃ a2 c2, e = .returned (.slice a2 (D (R - M)).length c2) ∧ w3.cell? ⟨w.heap.size, i, none⟩ = some (.int .i64 (t : Int)) ∧ w3.frozen? ⟨w.heap.size, i, none⟩ = false ∧
      Hid (RestAt w (w3.setCell ⟨w.heap.size, i, none⟩ (.int .i64 (t1 : Int))) a2 c2 (R - M) ∧ DivDIn w xs M i t1 (R - M) (w3.setCell ⟨w.heap.size, i, none⟩ (.int .i64 (t1 : Int))))) := by
  subst ht1
  have hs := h.below
  obtain ⟨ht, _⟩ := h.step hi hle
  refine ⟨ht, Lib.hid ?_⟩
  have hy2 := hy.kept hs.1
  refine (SubD_any a ay c cy R M (wr.drewN nd) (hr.1.drewN nd) (hy2.drewN nd) lr ly).mono ?_
  rintro e w3 ⟨a2, c2, rfl, hD, hb3, hn⟩
  have hb3' : Below wr.heap.size wr w3 := ⟨hb3.os, hb3.tape, hb3.output, hb3.size, hb3.block⟩
  obtain ⟨_, k1, k2, k3⟩ := (h.kept hb3').step hi hle
  refine ⟨a2, c2, rfl, k1, k2, Lib.hid ⟨?_, k3⟩⟩
  have hrest : RestAt w w3 a2 c2 (R - M) := ⟨hD, hn.imp id fun h g off e => Nat.le_trans hs.2 (h g off e)⟩
  exact hrest.set _
theorem div_exact {v M q R : Nat} (h : v = q * M + R) (hlt : R < M) : q = v / M ∧ R = remN v M := by
  have hM : 0 < M := by omega
  refine ⟨?_, ?_⟩
  · rw [h, Nat.mul_comm, Nat.mul_add_div hM, Nat.div_eq_of_lt hlt, Nat.add_zero]
  · unfold remN; rw [if_neg (by omega), h, Nat.mul_comm, Nat.mul_add_mod, Nat.mod_eq_of_lt hlt]
set_option maxRecDepth 100000 in
set_option maxHeartbeats 4000000 in
theorem DivD_any (ax ay : Option Addr) (cx cy n m : Nat) (w : World) (hx : DAt w ax cx n) (hy : DAt w ay cy m) (lx : (D n).length ≤ 536870912) (ly : (D m).length ≤ 536870912) :
    Calls Tryz.prog 75 #[.slice ax (D n).length cx, .slice ay (D m).length cy] w (GivesDivD (n / m) (remN n m) w) := by
  rcases Nat.eq_zero_or_pos m with h0 | h0
  · subst h0
    have hz : (((D 0).length : Int) == 0) = true := rfl
    have HZ : Hid (n / 0 = 0 ∧ remN n 0 = 0) := Lib.hid ⟨Nat.div_zero n, by simp [remN]⟩
    rw [HZ.out.1, HZ.out.2]
    clear hx hy
    go_enter Tryz.func75, Tryz.ntmps75
    go_wp2_with fail
    go_ret2
    exact ⟨_, 0, _, 0, rfl, DAt.zero _ _ _ (by simp [maxLen]), DAt.zero _ _ _ (by simp [maxLen]), ((Below.refl _ _).alloc (Nat.le_refl _) _).alloc (by simp) _⟩
  · have hz : (((D m).length : Int) == 0) = false := cast_beq_no (by rw [Ne, D_len_zero]; omega)
    have hrx := hx.1
    have HY := Lib.hid hy
    have HXD := Lib.hid (D_dig n)
    have HV : Hid (val 10 (D n) = n) := Lib.hid (val_D n)
    clear hx hy
    obtain ⟨q, hq⟩ : ∃ q, n / m = q := ⟨_, rfl⟩
    obtain ⟨r, hr⟩ : ∃ r, remN n m = r := ⟨_, rfl⟩
    rw [hq, hr]
    have HQ := Lib.hid (And.intro hq hr)
    clear hq hr
    generalize D n = xs at *
    have hmk := make_run (P := Tryz.prog) Tryz.underlying40 info_int (xs.length : Int) (xs.length : Int) xs.length xs.length rfl rfl (Nat.le_refl _) (by omega) (by unfold maxLen; omega)
    have H0 : Hid (DivDOut w xs m xs.length 0 ((w.alloc (.cells (zrow .i64 xs.length) 3)).alloc (.cells #[] 3))) := Lib.hid ⟨_, (DivDAt.start w xs.length).kept ((Below.refl _ _).alloc (Nat.le_refl _) _), by simp [val], h0⟩
    go_enter Tryz.func75, Tryz.ntmps75
    go_wp2_with fail
    clear hmk
    go_loopw [7, 8] (fun rv iv wr => ∃ (k R : Nat) (a : Option Addr) (c : Nat), rv = .slice a (D R).length c ∧ iv = .int .i64 ((k : Int) - 1) ∧ k ≤ xs.length ∧ DivDOut w xs m k R wr ∧ RestAt w wr a c R) (fun _ iv _ => (intOf iv + 1).toNat)
    case atStart => exact ⟨xs.length, 0, _, 0, rfl, rfl, Nat.le_refl _, H0.out, DAt.zero _ _ _ (by simp [maxLen]), .inl rfl⟩
    case round =>
      obtain ⟨k, R, a, c, rfl, rfl, hk, hout, hrest⟩ := hrel
      have HO := Lib.hid hout
      have HR := Lib.hid hrest
      have hRl : (D R).length ≤ 536870912 := by
        obtain ⟨Q, _, _, hlt⟩ := hout
        exact Nat.le_trans (D_mono (Nat.le_of_lt hlt)) ly
      clear hout hrest H0
      cases k with
      | zero =>
        obtain ⟨Q, q1, q2, q3⟩ := HO.out
        rw [List.drop_zero, List.drop_zero, HV.out] at q2
        obtain ⟨e1, e2⟩ := div_exact q2 q3
        rw [HQ.out.1] at e1
        rw [HQ.out.2] at e2
        have HC := Lib.hid (cut_quiet q1.row.reads0 (by rw [q1.len]; exact Nat.le_refl _) (by unfold maxLen; omega) q1.dig rfl)
        rw [q1.len, e1] at HC
        have HRE := Lib.hid e2
        have HB := Lib.hid q1.below
        have HRK := Lib.hid HR.out.1
        clear q1 q2 q3 e1 e2 HO HR
        go_wp2_with fail
        refine HC.out.mono ?_
        rintro e w2 ⟨rfl, hd2, rfl⟩
        have HE := Lib.hid (And.intro hd2 (And.intro HRK.out HB.out))
        clear hd2 HC HRK HB
        go_wp2_with fail
        go_ret2
        exact ⟨_, _, a, c, by rw [← HRE.out]; rfl, HE.out.1, by rw [← HRE.out]; exact HE.out.2.1, HE.out.2.2⟩
      | succ i =>
        rw [show (((i + 1 : Nat) : Int) - 1) = (i : Int) from by omega]
        have hB := HO.out.below.1
        have d0 : (0 : Int) ≤ (i : Int) := by omega
        have hil : i < xs.length := by omega
        have dil : (i : Int) < (xs.length : Int) := by omega
        obtain ⟨x, hxe⟩ : ∃ x, x = xs.getD i 0 := ⟨_, rfl⟩
        obtain ⟨g1, o1, rfl, hg1, hc1⟩ := (hrx.kept hB).open' (by rw [List.length_map]; omega)
        have hck1 := hc1 i _ (map_getElem? (xs := xs) hil)
        rw [← hxe] at hck1
        unfold i64v at hck1
        have HNC := Lib.hid (fun (w2 : World) (g' cap' : Nat) h1 h2 h3 h4 => next_cut (w2 := w2) (g' := g') (cap' := cap') HO.out hil HXD.out hxe h1 h2 h3 h4)
        have hrow := Row.new (E := 3) wr #[.int .i64 (x : Int)]
        have hrow1 : Row 3 (wr.alloc (.cells #[.int .i64 (x : Int)] 3)) wr.heap.size 1 [.int .i64 (x : Int)] := hrow
        have hrd := HR.out.1.1.kept ((Below.refl wr.heap.size wr).alloc (Nat.le_refl _) (.cells #[.int .i64 (x : Int)] 3))
        have HC1 : Hid (∀ u ∈ (D R).map i64v, u.oneCell' = true) := Lib.hid (by
          intro u hu
          obtain ⟨z, _, rfl⟩ := List.mem_map.1 hu
          rfl)
        have HB := Lib.hid hB
        clear hc1 hxe hrow hB
        go_wp2_with (first | (at_builtin; refine wpList_append_row _ rfl (.tmp 29) (.tmp 30) 40 rfl 3 (.int .i64 0) 8 Tryz.underlying40 info_int rfl wr.heap.size 1 1 [.int .i64 (x : Int)] rfl hrow1 rfl (by simp [maxLen]) a (D R).length c ((D R).map i64v) rfl (by simp) hrd HC1.out (by unfold maxLen; omega) (by omega) ?_; intro g' cap' w2 hr2 hcap2 hg2 hgg) | fail)
        have hb2 : Below wr.heap.size wr w2 := ((Below.refl wr.heap.size wr).alloc (Nat.le_refl _) _).grown hg2 (by simp) (fun k hk => by cases hk; exact Nat.le_refl _)
        have HNX := Lib.hid (HNC.out w2 g' cap' hr2 hcap2 hb2 hgg)
        rw [Nat.add_comm (D R).length 1] at HNX
        clear HNC hr2 hcap2 hb2 hgg hg2 hrow1 hrd HC1 HR HO hck1
        refine HNX.out.mono ?_
        rintro e w3 ⟨a3, c3, U, rfl, HU⟩
        have hUl : (D U).length ≤ 536870913 := by have := HU.out.2.2; omega
        clear HNX hRl
        go_wp2_with fail
        go_loopg [7] 10 (fun g rv wr2 => ∃ (a : Option Addr) (c R t : Nat), rv = .slice a (D R).length c ∧ (D R).length ≤ 536870913 ∧ t + g = 10 ∧ RestAt w wr2 a c R ∧ DivDIn w xs m i t R wr2)
        case atStart => exact ⟨a3, c3, U, 0, rfl, hUl, by omega, HU.out.1, HU.out.2.1⟩
        case round =>
          clear HU hUl
          obtain ⟨a4, c4, R4, t, rfl, hl4, htg, hr4, hin4⟩ := hrel
          have HCM := Lib.hid (CmpD_any a4 ay c4 cy R4 m _ hr4.1 (HY.out.kept hin4.below.1) (by omega) (by omega))
          have HH := Lib.hid (And.intro hr4 hin4)
          have HTG := Lib.hid htg
          clear hr4 hin4 htg
          by_cases hle : m ≤ R4
          · have hcm : ¬ cmpI (R4 : Int) (m : Int) < 0 := by unfold cmpI; rw [if_neg (by omega)]; split <;> omega
            have hcm2 : 0 ≤ cmpI (R4 : Int) (m : Int) := by omega
            obtain ⟨t1, ht1⟩ : ∃ t1 : Nat, (t : Int) + 1 = (t1 : Int) := ⟨t + 1, by omega⟩
            have HS := Lib.hid (fun nd => sub_round HH.out.2 HH.out.1 HY.out (by omega) (by omega) hil nd hle t1 (by omega))
            have ht9 : t < 9 := (HS.out 0).1
            have HG1 : Hid (t1 + (gk - 1) = 10 ∧ 0 < gk) := Lib.hid (by have := HTG.out; omega)
            have HLL : Hid ((D (R4 - m)).length ≤ 536870913) := Lib.hid (Nat.le_trans (D_mono (Nat.sub_le _ _)) hl4)
            clear hcm hle HTG
            generalize cmpI (R4 : Int) (m : Int) = cm at *
            go_wp2_with fail
            refine HCM.out.mono ?_
            rintro e w5 ⟨rfl, nd, rfl⟩
            have HS2 := Lib.hid (HS.out nd).2.out
            clear HCM HS HH
            go_wp2_with fail
            refine HS2.out.mono ?_
            rintro e w6 ⟨a6, c6, rfl, k1, k2, HN⟩
            clear HS2
            go_wp2_with fail
            go_roundg (gk - 1)
            case rel => exact ⟨a6, c6, _, t1, rfl, HLL.out, HG1.out.1, HN.out.1, HN.out.2⟩
            case measure => have := HG1.out.2; omega
          · have hcm : cmpI (R4 : Int) (m : Int) = -1 := by unfold cmpI; rw [if_pos (by omega)]
            rw [hcm] at HCM
            have HX := Lib.hid (fun nd => And.intro ((HH.out.2.leave (by omega)).kept (w' := wr.drewN nd) ⟨rfl, rfl, rfl, Nat.le_refl _, fun _ _ => rfl⟩) (show RestAt w (wr.drewN nd) a4 c4 R4 from HH.out.1))
            clear hcm hle HTG HH
            go_wp2_with fail
            refine HCM.out.mono ?_
            rintro e w5 ⟨rfl, nd, rfl⟩
            have HX2 := Lib.hid (HX.out nd)
            clear HCM HX
            go_wp2_with fail
            go_roundw
            case rel => exact ⟨i, R4, a4, c4, rfl, rfl, by omega, HX2.out.1, HX2.out.2⟩
            case measure => simp [intOf] <;> omega
def GivesAtD (n : Nat) (w : World) (e : Ending) (w' : World) : Prop := ∃ a c, e = .returned (.slice a (D n).length c) ∧ DAt w' a c n ∧ Below w.heap.size w w'
def GcdDIn (w : World) (G k : Nat) (a : Option Addr) (c n : Nat) (a' : Option Addr) (c' m : Nat) (wr : World) : Prop :=
  DAt wr a c n ∧ DAt wr a' c' m ∧ Nat.gcd n m = G ∧ (D n).length ≤ 536870912 ∧ (D m).length ≤ 536870912 ∧ Below w.heap.size w wr ∧ m ≤ k
set_option maxRecDepth 100000 in
set_option maxHeartbeats 2000000 in
theorem GcdD_any (ax ay : Option Addr) (cx cy n m : Nat) (w : World) (hx : DAt w ax cx n) (hy : DAt w ay cy m) (lx : (D n).length ≤ 536870912) (ly : (D m).length ≤ 536870912) :
    Calls Tryz.prog 74 #[.slice ax (D n).length cx, .slice ay (D m).length cy] w (GivesAtD (Nat.gcd n m) w) := by
  have H0 : Hid (GcdDIn w (Nat.gcd n m) m ax cx n ay cy m w) := Lib.hid ⟨hx, hy, rfl, lx, ly, Below.refl _ _, Nat.le_refl _⟩
  clear hx hy lx ly
  generalize Nat.gcd n m = G at *
  go_enter Tryz.func74, Tryz.ntmps74
  go_wp2_with fail
  go_loopg [0, 1] m (fun k xv yv wr => ∃ a c n a' c' m, xv = .slice a (D n).length c ∧ yv = .slice a' (D m).length c' ∧ GcdDIn w G k a c n a' c' m wr)
  case atStart => exact ⟨_, _, _, _, _, _, rfl, rfl, H0.out⟩
  case round =>
    obtain ⟨a, c, n1, a', c', m1, rfl, rfl, hin⟩ := hrel
    have HI := Lib.hid hin
    clear hin H0
    rcases Nat.eq_zero_or_pos m1 with h0 | h0
    · have d1 : ¬ (0 : Int) < ((D m1).length : Int) := by rw [h0]; simp [D_zero]
      have HE : Hid (n1 = G ∧ DAt wr a c n1 ∧ Below w.heap.size w wr) := Lib.hid (by
        obtain ⟨h1, h2, h3, h4, h5, h6, h7⟩ := HI.out
        rw [h0, Nat.gcd_zero_right] at h3
        exact ⟨h3, h1, h6⟩)
      clear HI h0
      go_wp2_with fail
      go_ret
      exact ⟨a, c, by rw [← HE.out.1]; rfl, by rw [← HE.out.1]; exact HE.out.2.1, HE.out.2.2⟩
    · have d1 : (0 : Int) < ((D m1).length : Int) := by
        have : (D m1).length ≠ 0 := by rw [Ne, D_len_zero]; omega
        omega
      have HD := Lib.hid (DivD_any a a' c c' n1 m1 wr HI.out.1 HI.out.2.1 HI.out.2.2.2.1 HI.out.2.2.2.2.1)
      have HN : Hid (∀ w2 a2 c2, DAt w2 a2 c2 (remN n1 m1) → Below wr.heap.size wr w2 → GcdDIn w G (gk - 1) a' c' m1 a2 c2 (remN n1 m1) w2 ∧ 0 < gk) := Lib.hid (by
        intro w2 a2 c2 hd hb
        obtain ⟨h1, h2, h3, h4, h5, h6, h7⟩ := HI.out
        have hr : remN n1 m1 = n1 % m1 := by unfold remN; rw [if_neg (by omega)]
        have hlt := Nat.mod_lt n1 h0
        refine ⟨⟨h2.kept hb, hd, ?_, h5, Nat.le_trans (D_mono (by omega)) h5, h6.trans (hb.mono h6.size), by omega⟩, by omega⟩
        rw [hr, ← h3, Nat.gcd_comm n1 m1, Nat.gcd_rec m1 n1, Nat.gcd_comm])
      clear HI h0
      generalize n1 / m1 = q at *
      generalize remN n1 m1 = r at *
      go_wp2_with fail
      refine HD.out.mono ?_
      rintro e w2 ⟨a1, c1, a2, c2, rfl, hd1, hd2, hb2⟩
      have HX := Lib.hid (HN.out w2 a2 c2 hd2 hb2)
      clear hd1 hd2 hb2 HN HD
      go_wp2_with fail
      go_roundg (gk - 1)
      case rel => exact ⟨_, _, _, _, _, _, rfl, rfl, HX.out.1⟩
      case measure => have := HX.out.2; omega
end Go.Proofs.YtpjeecahaeaajaaGreatDoor
