/-
  nat.divide; the bench's Div.
-/
import Derived.Test.YtaiemcacpimcjaaDoorDivLong
import Derived.Test.YtaiemcacpimcjaaDoorOver
set_option linter.unusedVariables false
set_option linter.unusedSimpArgs false
namespace Go.Proofs.YtaiemcacpimcjaaDoor
open Go.RowKit Rep

theorem GivesDiv.mono {q r : Nat} {w w1 w2 : World} {e : Ending} (h : GivesDiv q r w1 e w2) (hb : Below w.heap.size w w1) : GivesDiv q r w e w2 := by
  obtain ⟨a1, c1, a2, c2, he, o1, o2, hB⟩ := h
  exact ⟨a1, c1, a2, c2, he, o1.mono hb.size, o2.mono hb.size, hb.trans (hB.mono hb.size)⟩

/-- What a clone, and the division of it by a limb, give. -/
def ShrinkNext (w : World) (N M q r gy oy : Nat) (W' : World) (e : Ending) (w' : World) : Prop :=
  ∃ g c, e = .returned (.slice (some ⟨g, 0, none⟩) (L N).length c) ∧ w'.cell? ⟨gy, oy, none⟩ = some (.int .u32 (M : Int)) ∧
    Hid (Calls Tryd.prog 43 #[.slice (some ⟨g, 0, none⟩) (L N).length c, .int .u32 (M : Int)] w' fun e w2 => ∃ a' c', e = .returned (.tuple #[.slice a' (L q).length c', .int .u32 (r : Int)]) ∧
      w2.cell? ⟨gy, oy, none⟩ = some (.int .u32 (M : Int)) ∧ Hid (Own w.heap.size w2 a' c' (L q) ∧ Below w.heap.size w w2))

theorem shrink_next {w W' : World} {ax : Option Addr} {cx N M q r gy oy : Nat} (hq : N / M = q) (hr : N % M = r) (hx : NumAt w ax cx N) (hb : Below w.heap.size w W') (hy : w.cell? ⟨gy, oy, none⟩ = some (.int .u32 (M : Int))) (hM : 0 < M) (hMl : M < 4294967296) (hNM : M ≤ N) (hl : (L N).length ≤ 1000000) :
    Calls Tryd.prog 39 #[.slice ax (L N).length cx] W' (ShrinkNext w N M q r gy oy W') := by
  subst hq hr
  have hgy := World.block_lt_of_cell? w _ hy
  simp only at hgy
  refine (clone_any ax cx N W' (hx.kept hb) (by omega)).mono ?_
  rintro e w1 ⟨a, c, rfl, ho, hb1⟩
  have hpos : 0 < (L N).length := Nat.pos_of_ne_zero fun e => by rw [L_len_zero] at e; omega
  obtain ⟨g, rfl, hg, hrw⟩ := ho.row hpos
  have hB := hb.trans (hb1.mono hb.size)
  refine ⟨g, c, rfl, (hB.cell hgy).trans hy, Lib.hid ?_⟩
  refine (shrink_row w.heap.size g c M (L N) w1 (L_lim N) (Nat.le_trans hb.size hg) ho.1 hrw (by omega) hM hMl).mono ?_
  rintro e w2 ⟨a', c', rfl, o1, o2, o3⟩
  rw [V_L] at o1 ⊢
  have hB2 : Below w.heap.size w w2 := hB.grown o3 hB.size (fun k hk => by cases hk; exact Nat.le_trans hb.size hg)
  exact ⟨a', c', rfl, (hB2.cell hgy).trans hy, Lib.hid ⟨o1, hB2⟩⟩

theorem one_limb {M : Nat} (h : (L M).length = 1) : L M = [M] ∧ M < 4294967296 := by
  have h1 : M < 4294967296 ^ 1 := (L_len M 1).1 (Nat.le_of_eq h)
  rw [Nat.pow_one] at h1
  exact ⟨rep_small (by omega) h1 (fun e => by rw [e, L_zero] at h; cases h), h1⟩

set_option maxHeartbeats 400000 in
theorem of_own (n : Nat) (hn : n < 18446744073709551616) (w : World) : Calls Tryd.prog 33 #[.int .u64 (n : Int)] w (GivesOwn (L n) w) := by
  have h1 : (n : Int) ≤ 18446744073709551615 := by omega
  have hrow : Row 48 (w.alloc (.cells #[.int .u32 ((n : Int) % 4294967296), .int .u32 ((n : Int) / 4294967296)] 48)) w.heap.size 2 ([n % 4294967296, n / 4294967296].map u32v) := by
    have := Row.new (E := 48) w #[.int .u32 ((n : Int) % 4294967296), .int .u32 ((n : Int) / 4294967296)]
    simpa [u32v] using this
  have hv : V [n % 4294967296, n / 4294967296] = n := by simp only [V, Rep.val]; omega
  have HV := Lib.hid hv
  clear hv
  have HL : Lim [n % 4294967296, n / 4294967296] := Lim.two (Nat.mod_lt _ (by omega)) (by omega)
  go_enter Tryd.func33, Tryd.ntmps33
  go_wp2_with fail
  refine (trim_own w.heap.size (some ⟨w.heap.size, 0, none⟩) 2 2 [n % 4294967296, n / 4294967296] rfl _ HL ⟨by simp [maxLen], .inr ⟨w.heap.size, rfl, Nat.le_refl _, hrow⟩⟩).mono ?_
  rintro e w' ⟨a, c, rfl, ho, _, rfl⟩
  rw [HV.out] at ho ⊢
  go_wp2_with fail
  go_ret
  exact ⟨a, c, rfl, ho, (Below.refl _ _).alloc (Nat.le_refl _) _⟩

set_option maxRecDepth 100000 in
set_option maxHeartbeats 2000000 in
theorem divide_any (ax ay : Option Addr) (cx cy N M : Nat) (w : World) (hx : NumAt w ax cx N) (hy : NumAt w ay cy M) (hM : 0 < M) (hb : (L N).length ≤ 1000000) :
    Calls Tryd.prog 42 #[.slice ax (L N).length cx, .slice ay (L M).length cy] w (GivesDiv (N / M) (N % M) w) := by
  have hpos : 0 < (L M).length := Nat.pos_of_ne_zero fun e => by rw [L_len_zero] at e; omega
  have hyc := hy.2.1
  have hyc2 := hy.2.2
  unfold maxLen at hyc2
  by_cases hlt : N < M
  · have hc : cmpI N M = -1 := by unfold cmpI; rw [if_pos (by omega)]
    have HQ : Hid (N / M = 0 ∧ N % M = N) := Lib.hid ⟨Nat.div_eq_of_lt hlt, Nat.mod_eq_of_lt hlt⟩
    rw [HQ.out.1, HQ.out.2]
    have HC := Lib.hid (fun (w1 : World) (h : Below w.heap.size w w1) => clone_any ax cx N w1 (hx.kept h) (by omega))
    have HM := Lib.hid (compare_num ax ay cx cy N M w hx hy (by omega))
    clear hx hy
    go_enter Tryd.func42, Tryd.ntmps42
    go_wp2_with fail
    refine HM.out.mono ?_
    rintro e w1 ⟨rfl, hb1⟩
    rw [hc]
    have HB := Lib.hid hb1
    clear hb1
    go_wp2_with fail
    refine (HC.out w1 HB.out).mono ?_
    rintro e w2 ⟨a, c, rfl, ho, hb2⟩
    have HE := Lib.hid (And.intro (ho.mono HB.out.size) (HB.out.trans (hb2.mono HB.out.size)))
    clear ho hb2
    go_wp2_with fail
    go_ret2
    exact ⟨none, 0, a, c, rfl, Own.nil _ _, HE.out.1, HE.out.2⟩
  · have hc0 : (decide (cmpI (N : Int) (M : Int) < 0)) = false := by
      unfold cmpI
      rw [if_neg (by omega)]
      split <;> rfl
    have HM := Lib.hid (compare_num ax ay cx cy N M w hx hy (by omega))
    by_cases h1 : (L M).length = 1
    · obtain ⟨hLM, hMl⟩ := one_limb h1
      obtain ⟨gy, oy, rfl, hgy, hcy⟩ := hy.1.open' (by rw [List.length_map]; omega)
      have hck := hcy 0 (u32v M) (by rw [hLM]; rfl)
      rw [Nat.add_zero] at hck
      have hz : (((L M).length : Int) == 1) = true := by rw [h1]; rfl
      have hrm : N % M < 4294967296 := by have := Nat.mod_lt N hM; omega
      obtain ⟨q, hq⟩ : ∃ q, N / M = q := ⟨_, rfl⟩
      obtain ⟨r, hr⟩ : ∃ r, N % M = r := ⟨_, rfl⟩
      have HSN := Lib.hid (fun (W' : World) (h : Below w.heap.size w W') => shrink_next hq hr hx h hck hM hMl (by omega) hb)
      rw [hr] at hrm
      have HOF := Lib.hid (fun (W' : World) => of_own r (by omega) W')
      rw [hq, hr]
      clear hq hr
      have hcell1 : ∀ W' : World, Below w.heap.size w W' → W'.cell? ⟨gy, oy, none⟩ = some (.int .u32 (M : Int)) := fun W' h => (h.cell (p := ⟨gy, oy, none⟩) hgy).trans hck
      have HCL := Lib.hid hcell1
      clear hx hy hcy hLM hcell1 h1
      generalize cmpI (N : Int) (M : Int) = cm at *
      have hcm : ¬ cm < 0 := by simpa using hc0
      go_enter Tryd.func42, Tryd.ntmps42
      go_wp2_with fail
      refine HM.out.mono ?_
      rintro e w1 ⟨rfl, hb1⟩
      have hc1 := HCL.out w1 hb1
      have HB := Lib.hid hb1
      clear hb1 hck
      go_wp2_with fail
      go_region_held3 (fun w' => w'.cell? ⟨gy, oy, none⟩ = some (.int .u32 (M : Int))) (go_keep)
        (first
          | (go_at_call 39; refine (HSN.out _ ?_).mono ?_; exact ⟨HB.out.os, HB.out.tape, HB.out.output, HB.out.size, HB.out.block⟩; rintro e w2 ⟨g, c, rfl, hc2, HK⟩)
          | (go_at_call 43; refine HK.out.mono ?_; rintro e w3 ⟨a3, c3, rfl, hc3, HE⟩))
      go_wp2_with fail
      refine (HOF.out w3).mono ?_
      rintro e w4 ⟨a4, c4, rfl, ho4, hb4⟩
      have HF := Lib.hid (And.intro (HE.out.1.kept hb4) (And.intro (ho4.mono HE.out.2.size) (HE.out.2.trans (hb4.mono HE.out.2.size))))
      clear ho4 hb4 HE
      go_wp2_with fail
      go_ret2
      exact ⟨a3, c3, a4, c4, rfl, HF.out.1, HF.out.2.1, HF.out.2.2⟩
    · have HL := Lib.hid (fun (W' : World) (h : Below w.heap.size w W') => divideLong_any ax ay cx cy N M W' (hx.kept h) (hy.kept h) (by omega) (by omega) hb)
      have hz : (((L M).length : Int) == 1) = false := by simp; omega
      clear hx hy
      generalize cmpI (N : Int) (M : Int) = cm at *
      have hcm : ¬ cm < 0 := by simpa using hc0
      go_enter Tryd.func42, Tryd.ntmps42
      go_wp2_with fail
      refine HM.out.mono ?_
      rintro e w1 ⟨rfl, hb1⟩
      have HB := Lib.hid hb1
      clear hb1
      go_wp2_with fail
      refine (HL.out w1 HB.out).mono ?_
      rintro e w2 hd
      have HD := Lib.hid (hd.mono HB.out)
      clear hd
      obtain ⟨a1, c1, a2, c2, rfl, o1, o2, hB2⟩ := HD.out
      have HE := Lib.hid (And.intro o1 (And.intro o2 hB2))
      clear o1 o2 hB2
      go_wp2_with fail
      go_ret2
      exact ⟨a1, c1, a2, c2, rfl, HE.out.1, HE.out.2.1, HE.out.2.2⟩

/-- What is left over, where a division by nought leaves nought. -/
def remN (n m : Nat) : Nat := if m = 0 then 0 else n % m
/-- Is a bench over, behind a quotient and what is left? -/
def divO (m : Nat) (o : Bool) (q r : Nat) : Bool := o || decide (m < (L q).length) || decide (m < (L r).length)
/-- What a bench's Div answers. -/
def GivesDivOut (b m : Nat) (o : Bool) (q r : Nat) (w : World) (e : Ending) (w' : World) : Prop :=
  ∃ a1 c1 a2 c2, e = .returned (.tuple #[.slice a1 (L (if divO m o q r = true then 0 else q)).length c1, .slice a2 (L (if divO m o q r = true then 0 else r)).length c2]) ∧
    NumAt w' a1 c1 (if divO m o q r = true then 0 else q) ∧ NumAt w' a2 c2 (if divO m o q r = true then 0 else r) ∧ Bench w' b m (divO m o q r) ∧ w.grownBy w' (some b)
theorem GivesDivOut.none {b m q r : Nat} {o : Bool} {w w' : World} (hb : Bench w' b m (divO m o q r)) (h : divO m o q r = true ∨ (q = 0 ∧ r = 0)) (hg : w.grownBy w' (some b)) : GivesDivOut b m o q r w (.returned (.tuple #[.slice none 0 0, .slice none 0 0])) w' := by
  have e1 : (if divO m o q r = true then 0 else q) = 0 := by rcases h with h | ⟨h, _⟩; · rw [if_pos h]
                                                             · rw [h]; split <;> rfl
  have e2 : (if divO m o q r = true then 0 else r) = 0 := by rcases h with h | ⟨_, h⟩; · rw [if_pos h]
                                                             · rw [h]; split <;> rfl
  refine ⟨Option.none, 0, Option.none, 0, ?_, ?_, ?_, hb, hg⟩
  · rw [e1, e2]; rfl
  · rw [e1]; exact NumAt.zero _
  · rw [e2]; exact NumAt.zero _

theorem NumAt.set {w : World} {b m : Nat} {o : Bool} {a : Option Addr} {c n : Nat} (h : NumAt w a c n) (hb : Bench w b m o) (u : Value) : NumAt (w.setCell ⟨b, 1, Option.none⟩ u) a c n :=
  ⟨h.1.grown (row := some b) ⟨rfl, rfl, rfl, by simp [World.setCell], fun k hk hne => by rw [Below.heap_setCell _ _ _ _ (by simpa using hne)]⟩ (hb.apart h.1), h.2⟩

set_option maxRecDepth 100000 in
set_option maxHeartbeats 2000000 in
theorem Div_any (b m : Nat) (ax ay : Option Addr) (xs ys : List Nat) (cx cy : Nat) (w : World) (o : Bool) (h : Bench w b m o) (hx : NumIn w ax cx xs) (hy : NumIn w ay cy ys) (hl : xs.length ≤ 1000000) :
    Calls Tryd.prog 22 #[.pointer (some ⟨b, 0, Option.none⟩), .slice ax xs.length cx, .slice ay ys.length cy] w (GivesDivOut b m o (V xs / V ys) (remN (V xs) (V ys)) w) := by
  cases o with
  | true =>
    refine (Div_over b m ax ay xs ys cx cy w h hx hy).mono ?_
    rintro e w' ⟨rfl, rfl⟩
    exact GivesDivOut.none (by simpa [divO] using h) (.inl (by simp [divO])) (grown_refl _ _)
  | false =>
    have h1 := h.c1
    have HB := Lib.hid h
    have hlx := cutAt_len xs hx.lim
    have hly := cutAt_len ys hy.lim
    clear h
    go_enter Tryd.func22, Tryd.ntmps22
    go_wp2_with fail
    refine (trim_num ax xs cx w hx.lim hx.reads hx.le hx.cap).mono ?_
    rintro e w' ⟨a1, c1, rfl, n1, rfl⟩
    go_wp2_with fail
    refine (trim_num ay ys cy w hy.lim hy.reads hy.le hy.cap).mono ?_
    rintro e w' ⟨a2, c2, rfl, n2, rfl⟩
    clear hx hy
    generalize V xs = N at *
    generalize V ys = M at *
    have HN := Lib.hid n1
    have HM := Lib.hid n2
    clear n1 n2
    by_cases hM : M = 0
    · subst hM
      have hz : (((L 0).length : Int) == 0) = true := rfl
      go_wp2_with fail
      go_ret2
      exact GivesDivOut.none (by simpa [divO, remN, L_zero] using HB.out) (.inr ⟨Nat.div_zero _, by simp [remN]⟩) (grown_refl _ _)
    · have hz : (((L M).length : Int) == 0) = false := cast_beq_no (by rw [Ne, L_len_zero]; exact hM)
      have HD := Lib.hid (divide_any a1 a2 c1 c2 N M w HN.out HM.out (by omega) (by omega))
      rw [show N % M = remN N M from by unfold remN; rw [if_neg hM]] at HD
      generalize N / M = q at *
      generalize remN N M = r at *
      go_wp2_with fail
      refine HD.out.mono ?_
      rintro e w1 ⟨a3, c3, a4, c4, rfl, o1, o2, hB⟩
      have HO := Lib.hid (And.intro o1.num (And.intro o2.num hB))
      have hb1 := HB.out.kept hB
      have HF := Lib.hid (fit_any w1 b m false a3 (L q).length c3 hb1)
      have HB1 := Lib.hid hb1
      clear o1 o2 hB hb1
      go_wp2_with fail
      refine HF.out.mono ?_
      rintro e w2 ⟨rfl, rfl⟩
      rw [Bool.false_or]
      have HB2 := Lib.hid (HB1.out.set (decide (m < (L q).length)))
      have HG2 : Hid (w.grownBy (w1.setCell ⟨b, 1, Option.none⟩ (.bool (decide (m < (L q).length)))) (some b)) := Lib.hid ⟨HO.out.2.2.os, HO.out.2.2.tape, HO.out.2.2.output, by have := HO.out.2.2.size; simpa [World.setCell] using this, fun k hk hne => by
        rw [Below.heap_setCell _ _ _ _ (by simpa using hne)]; exact HO.out.2.2.block k hk⟩
      have HF2 := Lib.hid (fit_any _ b m (decide (m < (L q).length)) a4 (L r).length c4 HB2.out)
      by_cases hmq : m < (L q).length
      · have d1 : decide (m < (L q).length) = true := decide_eq_true hmq
        rw [d1] at HB2 HG2 HF2 ⊢
        rw [if_pos rfl]
        have h3 := HB2.out.c1
        clear d1 h1
        go_wp2_with fail
        refine HF2.out.mono ?_
        rintro e w3 ⟨rfl, rfl⟩
        have h4 := (HB2.out.set true).c1
        rw [Bool.true_or, if_pos rfl]
        have HB3 := Lib.hid (HB2.out.set true)
        have HG3 := Lib.hid (grownBy_set (i := 1) (u := .bool true) HG2.out)
        clear h3
        generalize ((w1.setCell ⟨b, 1, Option.none⟩ (.bool true)).setCell ⟨b, 1, Option.none⟩ (.bool true)) = w4 at *
        go_wp2_with fail
        go_ret2
        exact GivesDivOut.none (by simpa [divO, hmq] using HB3.out) (.inl (by simp [divO, hmq])) HG3.out
      · have d1 : decide (m < (L q).length) = false := decide_eq_false hmq
        rw [d1] at HB2 HG2 HF2 ⊢
        rw [if_neg (by simp)]
        have h3 := HB2.out.c1
        clear d1 h1
        go_wp2_with fail
        refine HF2.out.mono ?_
        rintro e w3 ⟨rfl, rfl⟩
        rw [Bool.false_or]
        have HB3 := Lib.hid (HB2.out.set (decide (m < (L r).length)))
        have HG3 := Lib.hid (grownBy_set (i := 1) (u := .bool (decide (m < (L r).length))) HG2.out)
        have HN3 := Lib.hid (And.intro ((HO.out.1.set HB1.out (.bool false)).set HB2.out (.bool (decide (m < (L r).length)))) ((HO.out.2.1.set HB1.out (.bool false)).set HB2.out (.bool (decide (m < (L r).length)))))
        have h4 := HB3.out.c1
        clear h3
        generalize ((w1.setCell ⟨b, 1, Option.none⟩ (.bool false)).setCell ⟨b, 1, Option.none⟩ (.bool (decide (m < (L r).length)))) = w4 at *
        by_cases hmr : m < (L r).length
        · have d2 : decide (m < (L r).length) = true := decide_eq_true hmr
          rw [d2] at h4 HB3 ⊢
          rw [if_pos rfl]
          clear d2
          go_wp2_with fail
          go_ret2
          exact GivesDivOut.none (by simpa [divO, hmr] using HB3.out) (.inl (by simp [divO, hmr])) HG3.out
        · have d2 : decide (m < (L r).length) = false := decide_eq_false hmr
          rw [d2] at h4 HB3 ⊢
          rw [if_neg (by simp)]
          clear d2
          go_wp2_with fail
          go_ret2
          have hdo : divO m false q r = false := by simp [divO, hmq, hmr]
          exact ⟨a3, c3, a4, c4, by rw [hdo]; rfl, by rw [hdo]; exact HN3.out.1, by rw [hdo]; exact HN3.out.2, by rw [hdo]; exact HB3.out, HG3.out⟩
end Go.Proofs.YtaiemcacpimcjaaDoor
