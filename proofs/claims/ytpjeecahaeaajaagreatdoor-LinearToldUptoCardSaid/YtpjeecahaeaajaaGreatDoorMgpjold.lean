/- By program out of: DigAdd, DigSub, DigMul. -/
import Derived.Test.YtpjeecahaeaajaaGreatDoorMgifngg
import Derived.Deep.LoopGhost
set_option linter.unusedVariables false
set_option linter.unusedSimpArgs false
namespace Go.Proofs.YtpjeecahaeaajaaGreatDoor
open Go.RowKit Rep
theorem info_int : (Tryz.prog.info? 3).map (fun i => (i.zero, i.size, i.bytes)) = some (some (.int .i64 0), 1, 8) := by kernel_rfl
def OutD (w wr : World) (a : Option Addr) (c : Nat) (O : List Nat) : Prop := OwnR 3 i64v w.heap.size wr a c O ∧ Below w.heap.size w wr
theorem OutD.start (w : World) : OutD w (w.alloc (.cells #[] 3)) (some ⟨w.heap.size, 0, none⟩) 0 [] :=
  ⟨⟨by simp [maxLen], .inr ⟨w.heap.size, rfl, Nat.le_refl _, Row.new (E := 3) w #[]⟩⟩, (Below.refl _ _).alloc (Nat.le_refl _) _⟩
theorem OutD.grow {w wr w' : World} {a : Option Addr} {c g' cap' d : Nat} {O : List Nat} (h : OutD w wr a c O) (hrow : Row 3 w' g' cap' ((O ++ [d]).map i64v)) (hcap : cap' ≤ maxLen)
    (hgr : (wr.alloc (.cells #[.int .i64 (d : Int)] 3)).grownBy w' (blk a)) (hg' : w.heap.size ≤ g') : OutD w w' (some ⟨g', 0, none⟩) cap' (O ++ [d]) :=
  ⟨⟨hcap, .inr ⟨g', rfl, hg', hrow⟩⟩, (h.2.alloc h.2.size _).grown hgr (by have := h.2.size; simp; omega) (fun k hk => h.1.blk_ge hk)⟩
theorem OutD.ready {w wr : World} {a : Option Addr} {c : Nat} {O : List Nat} (h : OutD w wr a c O) (d : Nat) :
    OwnR 3 i64v w.heap.size (wr.alloc (.cells #[.int .i64 (d : Int)] 3)) a c O ∧ (wr.alloc (.cells #[.int .i64 (d : Int)] 3)).cell? ⟨wr.heap.size, 0, none⟩ = some (i64v d) :=
  ⟨h.1.kept ((Below.refl wr.heap.size wr).alloc (Nat.le_refl _) _), (Row.new (E := 3) wr #[.int .i64 (d : Int)]).cell 0 _ rfl⟩
theorem OutD.cut {w wr : World} {a : Option Addr} {c v : Nat} {O : List Nat} (h : OutD w wr a c O) (hd : Dig 10 O) (hv : val 10 O = v) : Calls Tryz.prog 64 #[.slice a O.length c] wr (GivesD w.heap.size v w) :=
  cut_D h.1.reads h.1.le h.1.1 hd hv h.2 (.inr fun g off e => h.1.blk_ge (by rw [e]; rfl))
structure AddDIn (xs ys O : List Nat) (i cy : Nat) : Prop where
  len : O.length = i
  dig : Dig 10 O
  cy1 : cy ≤ 1
  sum : val 10 O + 10 ^ i * cy = val 10 (xs.take i) + val 10 (ys.take i)
theorem AddDIn.start (xs ys : List Nat) : AddDIn xs ys [] 0 0 := ⟨rfl, Dig.nil _, by omega, by simp [val]⟩
theorem AddDIn.step {xs ys O : List Nat} {i cy T d cy' : Nat} (h : AddDIn xs ys O i cy) (hx : Dig 10 xs) (hy : Dig 10 ys) (hT : T = cy + xs.getD i 0 + ys.getD i 0) (hd : d = T % 10) (hc : cy' = T / 10) : AddDIn xs ys (O ++ [d]) (i + 1) cy' := by
  have hx1 : xs.getD i 0 < 10 := hx.getD i (by omega)
  have hy1 : ys.getD i 0 < 10 := hy.getD i (by omega)
  have h1 := h.cy1
  refine ⟨by simp [h.len], h.dig.append (Dig.cons (by omega) (Dig.nil _)), by omega, ?_⟩
  rw [val_snoc, h.len, val_take_succ', val_take_succ']
  have h2 := h.sum
  have h3 : 10 ^ i * d + 10 ^ (i + 1) * cy' = 10 ^ i * T := by
    rw [Nat.pow_succ, Nat.mul_assoc, ← Nat.mul_add]
    congr 1
    omega
  have h4 : 10 ^ i * T = 10 ^ i * cy + 10 ^ i * xs.getD i 0 + 10 ^ i * ys.getD i 0 := by rw [hT, Nat.mul_add, Nat.mul_add]
  omega
theorem AddDIn.done {xs ys O : List Nat} {i : Nat} (h : AddDIn xs ys O i 0) (h1 : xs.length ≤ i) (h2 : ys.length ≤ i) : val 10 O = val 10 xs + val 10 ys := by
  have := h.sum
  rw [List.take_of_length_le h1, List.take_of_length_le h2] at this
  omega
set_option maxRecDepth 100000 in
set_option maxHeartbeats 2000000 in
theorem AddD_any (ax ay : Option Addr) (cx cy n m : Nat) (w : World) (hx : DAt w ax cx n) (hy : DAt w ay cy m) (lx : (D n).length ≤ 1073741824) (ly : (D m).length ≤ 1073741824) :
    Calls Tryz.prog 66 #[.slice ax (D n).length cx, .slice ay (D m).length cy] w (GivesD w.heap.size (n + m) w) := by
  have hrx := hx.1
  have hry := hy.1
  have hdx := D_dig n
  have hdy := D_dig m
  have HV : Hid (val 10 (D n) + val 10 (D m) = n + m) := Lib.hid (by rw [val_D, val_D])
  have HXD := Lib.hid hdx
  have HYD := Lib.hid hdy
  clear hx hy
  generalize D n = xs at *
  generalize D m = ys at *
  generalize n + m = s at *
  have H0 := Lib.hid (OutD.start w)
  go_enter Tryz.func66, Tryz.ntmps66
  go_wp2_with fail
  go_loopg [5, 6, 7] (2 * (max xs.length ys.length + 1)) (fun k ov cv iv wr => ∃ a c O i cy, ov = .slice a i c ∧ cv = .int .i64 (cy : Nat) ∧ iv = .int .i64 (i : Nat) ∧ OutD w wr a c O ∧ AddDIn xs ys O i cy ∧ i + cy ≤ max xs.length ys.length + 1 ∧ 2 * (max xs.length ys.length + 1 - i) + cy ≤ k)
  case atStart => exact ⟨_, _, [], 0, 0, rfl, rfl, rfl, H0.out, AddDIn.start _ _, by omega, by omega⟩
  case round =>
    obtain ⟨a, c, O, i, cr, rfl, rfl, rfl, ho, hin, him, hk⟩ := hrel
    have hil : i ≤ 1073741825 := by omega
    have HO := Lib.hid ho
    have HI := Lib.hid hin
    have HM := Lib.hid (And.intro him hk)
    have hcr := hin.cy1
    clear ho hin H0 him hk
    by_cases hex : xs.length ≤ i ∧ ys.length ≤ i ∧ cr = 0
    · obtain ⟨e1, e2, e3⟩ := hex
      subst e3
      have d1 : ¬ (i : Int) < (xs.length : Int) := by omega
      have d2 : ¬ (i : Int) < (ys.length : Int) := by omega
      have d3 : decide (i < xs.length) = false := decide_eq_false (by omega)
      have d4 : decide (i < ys.length) = false := decide_eq_false (by omega)
      have HC := Lib.hid (HO.out.cut HI.out.dig ((HI.out.done e1 e2).trans HV.out))
      rw [HI.out.len] at HC
      clear e1 e2
      go_wp2_with fail
      refine HC.out.mono ?_
      rintro e w2 ⟨a2, c2, rfl, hd2, hb2⟩
      have HE := Lib.hid (And.intro hd2 hb2)
      clear hd2 hb2 HC
      go_wp2_with fail
      go_ret
      exact ⟨a2, c2, rfl, HE.out.1, HE.out.2⟩
    · by_cases c1 : i < xs.length
      · by_cases c2 : i < ys.length
        · have e1 : i < xs.length := by omega
          have e2 : i < ys.length := by omega
          have d1 : (i : Int) < (xs.length : Int) := by omega
          have d2 : (i : Int) < (ys.length : Int) := by omega
          have d3 : decide (i < xs.length) = true := decide_eq_true (by omega)
          have d4 : decide (i < ys.length) = true := decide_eq_true (by omega)
          obtain ⟨x, hxe⟩ : ∃ x, x = xs.getD i 0 := ⟨_, rfl⟩
          obtain ⟨y, hye⟩ : ∃ y, y = ys.getD i 0 := ⟨_, rfl⟩
          have hxl : x < 10 := by rw [hxe]; exact HXD.out.getD i (by omega)
          have hyl : y < 10 := by rw [hye]; exact HYD.out.getD i (by omega)
          obtain ⟨g1, o1, rfl, hg1, hc1⟩ := (hrx.kept HO.out.2).open' (by rw [List.length_map]; omega)
          have hck1 := hc1 i _ (map_getElem? (xs := xs) e1)
          rw [← hxe] at hck1
          unfold i64v at hck1
          have hnx : 0 = 0 := rfl
          clear hc1
          obtain ⟨g2, o2, rfl, hg2, hc2⟩ := (hry.kept HO.out.2).open' (by rw [List.length_map]; omega)
          have hck2 := hc2 i _ (map_getElem? (xs := ys) e2)
          rw [← hye] at hck2
          unfold i64v at hck2
          have hny : 0 = 0 := rfl
          clear hc2
          obtain ⟨S, hS⟩ : ∃ S : Nat, (cr : Int) + (x : Int) = (S : Int) := ⟨cr + x, by omega⟩
          have hSb : S ≤ 10 := by omega
          obtain ⟨T, hT⟩ : ∃ T : Nat, (S : Int) + (y : Int) = (T : Int) := ⟨S + y, by omega⟩
          have hTb : T ≤ 19 := by omega
          obtain ⟨d, hd⟩ : ∃ d : Nat, (T : Int) % 10 = (d : Int) := ⟨T % 10, by omega⟩
          obtain ⟨q, hq⟩ : ∃ q : Nat, (T : Int) / 10 = (q : Int) := ⟨T / 10, by omega⟩
          have HN := Lib.hid (HI.out.step (T := T) (d := d) (cy' := q) HXD.out HYD.out (by omega) (by omega) (by omega))
          have hqb : i + 1 + q ≤ max xs.length ys.length + 1 ∧ 2 * (max xs.length ys.length + 1 - (i + 1)) + q ≤ gk - 1 ∧ 0 < gk := by have := HM.out; omega
          have HQ := Lib.hid hqb
          obtain ⟨hO1, hcell⟩ := HO.out.ready d
          have hsz : w.heap.size ≤ wr.heap.size := HO.out.2.size
          clear hqb hxe hye hnx hny e1 e2 HM hex
          go_wp2_with (first | (at_builtin; refine wpList_append_one _ rfl (.tmp 47) (.tmp 50) 40 rfl 3 (.int .i64 0) 8 Tryz.underlying40 info_int rfl i64v w.heap.size a _ _ O rfl hO1 HI.out.len ⟨wr.heap.size, 0, none⟩ 1 d rfl hcell rfl (by unfold maxLen; omega) (by omega) (by simp; omega) ?_; intro g' cap' w' hrow' hcap hgrow hg') | fail)
          have HR := Lib.hid (HO.out.grow hrow' hcap hgrow hg')
          clear hrow' hgrow hO1 hcell
          go_wp2_with fail
          go_roundg (gk - 1)
          case rel => exact ⟨_, _, _, i + 1, q, rfl, rfl, by go_num, HR.out, HN.out, HQ.out.1, HQ.out.2.1⟩
          case measure => have := HQ.out.2.2; omega
        · have e1 : i < xs.length := by omega
          have e2 : ¬ i < ys.length := by omega
          have d1 : (i : Int) < (xs.length : Int) := by omega
          have d2 : ¬ (i : Int) < (ys.length : Int) := by omega
          have d3 : decide (i < xs.length) = true := decide_eq_true (by omega)
          have d4 : decide (i < ys.length) = false := decide_eq_false (by omega)
          obtain ⟨x, hxe⟩ : ∃ x, x = xs.getD i 0 := ⟨_, rfl⟩
          obtain ⟨y, hye⟩ : ∃ y, y = ys.getD i 0 := ⟨_, rfl⟩
          have hxl : x < 10 := by rw [hxe]; exact HXD.out.getD i (by omega)
          have hyl : y < 10 := by rw [hye]; exact HYD.out.getD i (by omega)
          obtain ⟨g1, o1, rfl, hg1, hc1⟩ := (hrx.kept HO.out.2).open' (by rw [List.length_map]; omega)
          have hck1 := hc1 i _ (map_getElem? (xs := xs) e1)
          rw [← hxe] at hck1
          unfold i64v at hck1
          have hnx : 0 = 0 := rfl
          clear hc1
          have hny : y = 0 := by rw [hye]; exact getD_ge (by omega)
          obtain ⟨S, hS⟩ : ∃ S : Nat, (cr : Int) + (x : Int) = (S : Int) := ⟨cr + x, by omega⟩
          have hSb : S ≤ 10 := by omega
          obtain ⟨d, hd⟩ : ∃ d : Nat, (S : Int) % 10 = (d : Int) := ⟨S % 10, by omega⟩
          obtain ⟨q, hq⟩ : ∃ q : Nat, (S : Int) / 10 = (q : Int) := ⟨S / 10, by omega⟩
          have HN := Lib.hid (HI.out.step (T := S) (d := d) (cy' := q) HXD.out HYD.out (by omega) (by omega) (by omega))
          have hqb : i + 1 + q ≤ max xs.length ys.length + 1 ∧ 2 * (max xs.length ys.length + 1 - (i + 1)) + q ≤ gk - 1 ∧ 0 < gk := by have := HM.out; omega
          have HQ := Lib.hid hqb
          obtain ⟨hO1, hcell⟩ := HO.out.ready d
          have hsz : w.heap.size ≤ wr.heap.size := HO.out.2.size
          clear hqb hxe hye hnx hny e1 e2 HM hex
          go_wp2_with (first | (at_builtin; refine wpList_append_one _ rfl (.tmp 47) (.tmp 50) 40 rfl 3 (.int .i64 0) 8 Tryz.underlying40 info_int rfl i64v w.heap.size a _ _ O rfl hO1 HI.out.len ⟨wr.heap.size, 0, none⟩ 1 d rfl hcell rfl (by unfold maxLen; omega) (by omega) (by simp; omega) ?_; intro g' cap' w' hrow' hcap hgrow hg') | fail)
          have HR := Lib.hid (HO.out.grow hrow' hcap hgrow hg')
          clear hrow' hgrow hO1 hcell
          go_wp2_with fail
          go_roundg (gk - 1)
          case rel => exact ⟨_, _, _, i + 1, q, rfl, rfl, by go_num, HR.out, HN.out, HQ.out.1, HQ.out.2.1⟩
          case measure => have := HQ.out.2.2; omega
      · by_cases c2 : i < ys.length
        · have e1 : ¬ i < xs.length := by omega
          have e2 : i < ys.length := by omega
          have d1 : ¬ (i : Int) < (xs.length : Int) := by omega
          have d2 : (i : Int) < (ys.length : Int) := by omega
          have d3 : decide (i < xs.length) = false := decide_eq_false (by omega)
          have d4 : decide (i < ys.length) = true := decide_eq_true (by omega)
          obtain ⟨x, hxe⟩ : ∃ x, x = xs.getD i 0 := ⟨_, rfl⟩
          obtain ⟨y, hye⟩ : ∃ y, y = ys.getD i 0 := ⟨_, rfl⟩
          have hxl : x < 10 := by rw [hxe]; exact HXD.out.getD i (by omega)
          have hyl : y < 10 := by rw [hye]; exact HYD.out.getD i (by omega)
          have hnx : x = 0 := by rw [hxe]; exact getD_ge (by omega)
          obtain ⟨g2, o2, rfl, hg2, hc2⟩ := (hry.kept HO.out.2).open' (by rw [List.length_map]; omega)
          have hck2 := hc2 i _ (map_getElem? (xs := ys) e2)
          rw [← hye] at hck2
          unfold i64v at hck2
          have hny : 0 = 0 := rfl
          clear hc2
          obtain ⟨T, hT⟩ : ∃ T : Nat, (cr : Int) + (y : Int) = (T : Int) := ⟨cr + y, by omega⟩
          have hTb : T ≤ 19 := by omega
          obtain ⟨d, hd⟩ : ∃ d : Nat, (T : Int) % 10 = (d : Int) := ⟨T % 10, by omega⟩
          obtain ⟨q, hq⟩ : ∃ q : Nat, (T : Int) / 10 = (q : Int) := ⟨T / 10, by omega⟩
          have HN := Lib.hid (HI.out.step (T := T) (d := d) (cy' := q) HXD.out HYD.out (by omega) (by omega) (by omega))
          have hqb : i + 1 + q ≤ max xs.length ys.length + 1 ∧ 2 * (max xs.length ys.length + 1 - (i + 1)) + q ≤ gk - 1 ∧ 0 < gk := by have := HM.out; omega
          have HQ := Lib.hid hqb
          obtain ⟨hO1, hcell⟩ := HO.out.ready d
          have hsz : w.heap.size ≤ wr.heap.size := HO.out.2.size
          clear hqb hxe hye hnx hny e1 e2 HM hex
          go_wp2_with (first | (at_builtin; refine wpList_append_one _ rfl (.tmp 47) (.tmp 50) 40 rfl 3 (.int .i64 0) 8 Tryz.underlying40 info_int rfl i64v w.heap.size a _ _ O rfl hO1 HI.out.len ⟨wr.heap.size, 0, none⟩ 1 d rfl hcell rfl (by unfold maxLen; omega) (by omega) (by simp; omega) ?_; intro g' cap' w' hrow' hcap hgrow hg') | fail)
          have HR := Lib.hid (HO.out.grow hrow' hcap hgrow hg')
          clear hrow' hgrow hO1 hcell
          go_wp2_with fail
          go_roundg (gk - 1)
          case rel => exact ⟨_, _, _, i + 1, q, rfl, rfl, by go_num, HR.out, HN.out, HQ.out.1, HQ.out.2.1⟩
          case measure => have := HQ.out.2.2; omega
        · have e1 : ¬ i < xs.length := by omega
          have e2 : ¬ i < ys.length := by omega
          have d1 : ¬ (i : Int) < (xs.length : Int) := by omega
          have d2 : ¬ (i : Int) < (ys.length : Int) := by omega
          have d3 : decide (i < xs.length) = false := decide_eq_false (by omega)
          have d4 : decide (i < ys.length) = false := decide_eq_false (by omega)
          have d5 : (0 : Int) < (cr : Int) := by omega
          obtain ⟨x, hxe⟩ : ∃ x, x = xs.getD i 0 := ⟨_, rfl⟩
          obtain ⟨y, hye⟩ : ∃ y, y = ys.getD i 0 := ⟨_, rfl⟩
          have hxl : x < 10 := by rw [hxe]; exact HXD.out.getD i (by omega)
          have hyl : y < 10 := by rw [hye]; exact HYD.out.getD i (by omega)
          have hnx : x = 0 := by rw [hxe]; exact getD_ge (by omega)
          have hny : y = 0 := by rw [hye]; exact getD_ge (by omega)
          obtain ⟨d, hd⟩ : ∃ d : Nat, (cr : Int) % 10 = (d : Int) := ⟨cr % 10, by omega⟩
          obtain ⟨q, hq⟩ : ∃ q : Nat, (cr : Int) / 10 = (q : Int) := ⟨cr / 10, by omega⟩
          have HN := Lib.hid (HI.out.step (T := cr) (d := d) (cy' := q) HXD.out HYD.out (by omega) (by omega) (by omega))
          have hqb : i + 1 + q ≤ max xs.length ys.length + 1 ∧ 2 * (max xs.length ys.length + 1 - (i + 1)) + q ≤ gk - 1 ∧ 0 < gk := by have := HM.out; omega
          have HQ := Lib.hid hqb
          obtain ⟨hO1, hcell⟩ := HO.out.ready d
          have hsz : w.heap.size ≤ wr.heap.size := HO.out.2.size
          clear hqb hxe hye hnx hny e1 e2 HM hex
          go_wp2_with (first | (at_builtin; refine wpList_append_one _ rfl (.tmp 47) (.tmp 50) 40 rfl 3 (.int .i64 0) 8 Tryz.underlying40 info_int rfl i64v w.heap.size a _ _ O rfl hO1 HI.out.len ⟨wr.heap.size, 0, none⟩ 1 d rfl hcell rfl (by unfold maxLen; omega) (by omega) (by simp; omega) ?_; intro g' cap' w' hrow' hcap hgrow hg') | fail)
          have HR := Lib.hid (HO.out.grow hrow' hcap hgrow hg')
          clear hrow' hgrow hO1 hcell
          go_wp2_with fail
          go_roundg (gk - 1)
          case rel => exact ⟨_, _, _, i + 1, q, rfl, rfl, by go_num, HR.out, HN.out, HQ.out.1, HQ.out.2.1⟩
          case measure => have := HQ.out.2.2; omega
theorem D_cons {c : Nat} (h : 0 < c) : D c = (c % 10) :: D (c / 10) := by
  refine (eq_rep (b := 10) (by omega) (Dig.cons (Nat.mod_lt _ (by omega)) (D_dig _)) ?_ ?_).symm
  · by_cases e : c / 10 = 0
    · rw [e, D_zero]; simp [Top]; omega
    · have hne : D (c / 10) ≠ [] := fun h => e (D_nil.1 h)
      have := rep_top (b := 10) (by omega) (c / 10)
      unfold Top at this ⊢
      rwa [List.getLast?_cons_of_ne_nil hne]
  · rw [val_cons, val_D]; omega
theorem D_len_limbs {xs : List Nat} (hx : Lim xs) : (D (V xs)).length ≤ 10 * xs.length := by
  rw [D_len]
  have h1 : V xs < 4294967296 ^ xs.length := val_lt hx
  have h2 : (4294967296 : Nat) ^ xs.length ≤ (10 ^ 10) ^ xs.length := Nat.pow_le_pow_left (by omega) _
  rw [← Nat.pow_mul] at h2
  omega
def OfIn (w : World) (xs : List Nat) (k : Nat) (a : Option Addr) (c : Nat) (wr : World) : Prop := OutD w wr a c (D (V (xs.drop k)))
def OfTail (w : World) (N cr : Nat) (a : Option Addr) (c : Nat) (P : List Nat) (wr : World) : Prop := OutD w wr a c P ∧ P ++ D cr = D N
theorem OfTail.step {w wr w' : World} {N cr c g' cap' d q : Nat} {a : Option Addr} {P : List Nat} (h : OfTail w N cr a c P wr) (h0 : 0 < cr) (hd : d = cr % 10) (hq : q = cr / 10) (hrow : Row 3 w' g' cap' ((P ++ [d]).map i64v)) (hcap : cap' ≤ maxLen)
    (hgr : (wr.alloc (.cells #[.int .i64 (d : Int)] 3)).grownBy w' (blk a)) (hg' : w.heap.size ≤ g') : OfTail w N q (some ⟨g', 0, none⟩) cap' (P ++ [d]) w' := by
  refine ⟨h.1.grow hrow hcap hgr hg', ?_⟩
  rw [← h.2, D_cons h0, hd, hq, List.append_assoc]
  rfl
set_option maxRecDepth 100000 in
set_option maxHeartbeats 4000000 in
theorem OfD_any (ax : Option Addr) (xs : List Nat) (cx : Nat) (w : World) (hx : Lim xs) (rx : Reads w ax (xs.map u32v)) (lx : xs.length ≤ 10000000) :
    Calls Tryz.prog 34 #[.slice ax xs.length cx] w (GivesD w.heap.size (V xs) w) := by
  have H0 : Hid (OfIn w xs xs.length (some ⟨w.heap.size, 0, none⟩) 0 (w.alloc (.cells #[] 3))) := Lib.hid (by
    unfold OfIn
    rw [List.drop_of_length_le (Nat.le_refl _)]
    exact OutD.start w)
  have HV : Hid (V (xs.drop 0) = V xs) := Lib.hid rfl
  have HX := Lib.hid hx
  clear hx
  go_enter Tryz.func34, Tryz.ntmps34
  go_wp2_with fail
  go_loopw [3, 4] (fun ov iv wr => ∃ (k : Nat) (a : Option Addr) (c : Nat), k ≤ xs.length ∧ ov = .slice a (D (V (xs.drop k))).length c ∧ iv = .int .i64 ((k : Int) - 1) ∧ OfIn w xs k a c wr) (fun _ iv _ => (intOf iv + 1).toNat)
  case atStart => exact ⟨xs.length, _, 0, Nat.le_refl _, by rw [List.drop_of_length_le (Nat.le_refl _)]; rfl, rfl, H0.out⟩
  case round =>
    obtain ⟨k, a, c, hk, rfl, rfl, hin⟩ := hrel
    have HI := Lib.hid hin
    clear hin H0
    cases k with
    | zero =>
      have HC := Lib.hid (HI.out.cut (D_dig _) (val_D _))
      rw [HV.out] at HC
      rw [List.drop_zero]
      clear HI
      generalize V xs = n at *
      go_wp2_with fail
      refine HC.out.mono ?_
      rintro e w2 ⟨a2, c2, rfl, hd2, hb2⟩
      have HE := Lib.hid (And.intro hd2 hb2)
      clear hd2 hb2 HC
      go_wp2_with fail
      go_ret
      exact ⟨a2, c2, rfl, HE.out.1, HE.out.2⟩
    | succ k =>
      rw [show (((k + 1 : Nat) : Int) - 1) = (k : Int) from by omega]
      have hkl : k < xs.length := by omega
      have d0 : (0 : Int) ≤ (k : Int) := by omega
      obtain ⟨x, hxe⟩ : ∃ x, x = xs.getD k 0 := ⟨_, rfl⟩
      have hxl : x < 4294967296 := by rw [hxe]; exact HX.out.getD k (by omega)
      obtain ⟨g1, o1, rfl, hg1, hc1⟩ := (rx.kept HI.out.2).open' (by rw [List.length_map]; omega)
      have hck1 := hc1 k _ (map_getElem? (xs := xs) hkl)
      rw [← hxe] at hck1
      unfold u32v at hck1
      have HNX : Hid (V (xs.drop k) = 4294967296 * V (xs.drop (k + 1)) + x) := Lib.hid (by
        unfold V
        rw [drop_cons _ xs k hkl, hxe, Nat.add_comm])
      have hlen : (D (V (xs.drop k))).length ≤ 100000000 := Nat.le_trans (D_len_limbs (HX.out.drop k)) (by rw [List.length_drop]; omega)
      have hlen1 : (D (V (xs.drop (k + 1)))).length ≤ 100000000 := Nat.le_trans (D_len_limbs (HX.out.drop (k + 1))) (by rw [List.length_drop]; omega)
      have HII : Hid (OutD w wr a c (D (V (xs.drop (k + 1))))) := HI
      clear hc1 hxe HI
      generalize hA : V (xs.drop (k + 1)) = A at *
      generalize hBq : V (xs.drop k) = Bq at *
      have HA := Lib.hid hA
      have HBq := Lib.hid hBq
      clear hA hBq
      have HG : GrowIn wr 3 i64v 10 4294967296 x w.heap.size a c (D A) 0 x wr := GrowIn.start HII.out.1 (D_dig A) hxl
      have HB := Lib.hid HII.out.2
      have hAl : (D A).length ≤ c := HII.out.1.le
      clear HII
      go_wp2_with fail
      clear hck1
      obtain ⟨wo, rfl⟩ : ∃ wo : World, wo = wr := ⟨_, rfl⟩
      go_loopw [5, 6] (fun cv jv wr => ∃ j cy : Nat, j ≤ (D A).length ∧ jv = .int .i64 j ∧ cv = .int .i64 cy ∧ cy < 4294967296 ∧ GrowIn wo 3 i64v 10 4294967296 x w.heap.size a c (D A) j cy wr) (fun _ jv _ => (D A).length - (intOf jv).toNat)
      case atStart => exact ⟨0, x, by omega, rfl, rfl, hxl, HG⟩
      case round =>
        obtain ⟨j, cy, hj, rfl, rfl, hcy, hin⟩ := hrel
        clear HG
        by_cases hlt : j < (D A).length
        · have dj : decide (j < (D A).length) = true := decide_eq_true hlt
          obtain ⟨g2, q, rfl, hle, hq, hcq, hfq, _, hb, hnext⟩ := hin.step hlt (by omega)
          obtain ⟨n, hn⟩ : ∃ n : Nat, (q : Int) * 4294967296 + (cy : Int) = (n : Int) := ⟨q * 4294967296 + cy, by omega⟩
          have hnb : n < 42949672960 := by omega
          obtain ⟨d, hd⟩ : ∃ d : Nat, (n : Int) % 10 = (d : Int) := ⟨n % 10, by omega⟩
          obtain ⟨q', hq'⟩ : ∃ q' : Nat, (n : Int) / 10 = (q' : Int) := ⟨n / 10, by omega⟩
          have HN := Lib.hid (hnext n q' d (by omega) (by omega) (by omega))
          have hqb : q' < 4294967296 := by omega
          have hqm1 : (0 : Int) ≤ (q : Int) * 4294967296 := by omega
          have hqm2 : (q : Int) * 4294967296 ≤ 42949672960 := by omega
          unfold i64v at hcq
          clear hnext hin hb
          go_wp2_with fail
          go_roundw
          case rel => exact ⟨j + 1, q', by omega, by go_num, rfl, hqb, HN.out⟩
          case measure => simp [intOf] <;> omega
        · obtain rfl : j = (D A).length := by omega
          obtain ⟨Q, hQ, hQl, hQe, hct', hg⟩ := hin.done (by omega) (D_dig A) (rep_top (by omega) A)
          rw [val_D, ← HNX.out] at hQe
          have dj : decide ((D A).length < (D A).length) = false := decide_eq_false (by omega)
          have hB2 : Below w.heap.size w wr := HB.out.grown hg HB.out.size (fun k hk => hQ.blk_ge hk)
          have HT : Hid (OfTail w Bq cy a c Q wr) := Lib.hid ⟨⟨hQ, hB2⟩, hQe⟩
          have HQL := Lib.hid hQl
          have hQle : Q.length ≤ 100000000 := by omega
          rw [← hQl]
          clear hin hQ hQe hg hB2 hQl dj
          go_wp2_with fail
          go_loopw [3, 5] (fun ov cv wr => ∃ (a : Option Addr) (c : Nat) (P : List Nat) (cy : Nat), ov = .slice a P.length c ∧ cv = .int .i64 cy ∧ cy < 4294967296 ∧ OfTail w Bq cy a c P wr) (fun _ cv _ => (intOf cv).toNat)
          case atStart => exact ⟨a, c, Q, cy, rfl, rfl, hcy, HT.out⟩
          case round =>
            clear HT hcy hct' hAl hQle HQL
            obtain ⟨a5, c5, P, cr, rfl, rfl, hcr, ht⟩ := hrel
            have HT := Lib.hid ht
            have hPl : P.length ≤ 100000000 := by
              have h1 : (P ++ D cr).length ≤ 100000000 := by rw [ht.2]; exact hlen
              rw [List.length_append] at h1
              omega
            clear ht
            rcases Nat.eq_zero_or_pos cr with h0 | h0
            · subst h0
              have hPe : P = D Bq := by
                have := HT.out.2
                rwa [D_zero, List.append_nil] at this
              have HO : Hid (OfIn w xs k a5 c5 wr) := Lib.hid (by
                unfold OfIn
                rw [HBq.out, ← hPe]
                exact HT.out.1)
              have HPE := Lib.hid hPe
              clear hPe HT
              go_wp2_with fail
              go_roundw
              case rel => exact ⟨k, a5, c5, by omega, by rw [HBq.out, ← HPE.out], rfl, HO.out⟩
              case measure => simp [intOf] <;> omega
            · have d3 : (0 : Int) < (cr : Int) := by omega
              obtain ⟨d, hd⟩ : ∃ d : Nat, (cr : Int) % 10 = (d : Int) := ⟨cr % 10, by omega⟩
              obtain ⟨q, hq⟩ : ∃ q : Nat, (cr : Int) / 10 = (q : Int) := ⟨cr / 10, by omega⟩
              have HD : Hid (d = cr % 10 ∧ q = cr / 10 ∧ q < cr) := Lib.hid (by omega)
              have hql : q < 4294967296 := by omega
              obtain ⟨hO1, hcell⟩ := HT.out.1.ready d
              have hsz : w.heap.size ≤ wr.heap.size := HT.out.1.2.size
              have H0 := Lib.hid h0
              clear h0
              go_wp2_with (first | (at_builtin; refine wpList_append_one _ rfl (.tmp 43) (.tmp 46) 40 rfl 3 (.int .i64 0) 8 Tryz.underlying40 info_int rfl i64v w.heap.size a5 _ _ P rfl hO1 rfl ⟨wr.heap.size, 0, none⟩ 1 d rfl hcell rfl (by unfold maxLen; omega) (by omega) (by simp; omega) ?_; intro g' cap' w' hrow' hcap hgrow hg') | fail)
              have HR := Lib.hid (HT.out.step H0.out HD.out.1 HD.out.2.1 hrow' hcap hgrow hg')
              clear hrow' hgrow hO1 hcell
              go_wp2_with fail
              go_roundw
              case rel => exact ⟨_, _, P ++ [d], q, by simp, rfl, hql, HR.out⟩
              case measure => have := HD.out.2.2; simp [intOf] <;> omega
end Go.Proofs.YtpjeecahaeaajaaGreatDoor

set_option linter.unusedVariables false
set_option linter.unusedSimpArgs false
namespace Go.Proofs.YtpjeecahaeaajaaGreatDoor
open Go.RowKit Rep
structure SubDIn (xs ys O : List Nat) (i b : Nat) : Prop where
  len : O.length = i
  dig : Dig 10 O
  b1 : b ≤ 1
  sum : val 10 O + val 10 (ys.take i) = val 10 (xs.take i) + 10 ^ i * b
theorem SubDIn.start (xs ys : List Nat) : SubDIn xs ys [] 0 0 := ⟨rfl, Dig.nil _, by omega, by simp [val]⟩
theorem SubDIn.step {xs ys O : List Nat} {i b d b' : Nat} (h : SubDIn xs ys O i b) (hd : d < 10) (hb : b' ≤ 1) (hT : d + b + ys.getD i 0 = xs.getD i 0 + 10 * b') : SubDIn xs ys (O ++ [d]) (i + 1) b' := by
  refine ⟨by simp [h.len], h.dig.append (Dig.cons hd (Dig.nil _)), hb, ?_⟩
  rw [val_snoc, h.len, val_take_succ', val_take_succ', Nat.pow_succ]
  have h2 := h.sum
  have h4 : 10 ^ i * d + 10 ^ i * b + 10 ^ i * ys.getD i 0 = 10 ^ i * xs.getD i 0 + 10 ^ i * 10 * b' := by rw [Nat.mul_assoc, ← Nat.mul_add, ← Nat.mul_add, ← Nat.mul_add, hT]
  omega
theorem SubDIn.done {xs ys O : List Nat} {i b : Nat} (h : SubDIn xs ys O i b) (h1 : xs.length = i) (h2 : ys.length ≤ i) (hle : val 10 ys ≤ val 10 xs) : val 10 O = val 10 xs - val 10 ys := by
  have h3 := h.sum
  rw [List.take_of_length_le (l := xs) (by omega), List.take_of_length_le (l := ys) h2] at h3
  have h4 := val_lt h.dig
  rw [h.len] at h4
  have hb := h.b1
  rcases Nat.eq_zero_or_pos b with e | e
  · subst e; rw [Nat.mul_zero] at h3; omega
  · obtain rfl : b = 1 := by omega
    omega
set_option maxRecDepth 100000 in
set_option maxHeartbeats 4000000 in
theorem SubD_any (ax ay : Option Addr) (cx cy n m : Nat) (w : World) (hx : DAt w ax cx n) (hy : DAt w ay cy m) (lx : (D n).length ≤ 1073741824) (ly : (D m).length ≤ 1073741824) :
    Calls Tryz.prog 68 #[.slice ax (D n).length cx, .slice ay (D m).length cy] w (GivesD w.heap.size (n - m) w) := by
  have HCM := Lib.hid (CmpD_any ax ay cx cy n m w hx hy lx ly)
  by_cases hlt : n < m
  · have hc : cmpI (n : Int) (m : Int) = -1 := by unfold cmpI; rw [if_pos (by omega)]
    rw [hc] at HCM
    have h0 : n - m = 0 := by omega
    rw [h0]
    clear hx hy hc h0 hlt
    go_enter Tryz.func68, Tryz.ntmps68
    go_wp2_with fail
    refine HCM.out.mono ?_
    rintro e w1 ⟨rfl, nd, rfl⟩
    go_wp2_with fail
    go_ret
    have hB : Below w.heap.size w ((w.drewN nd).alloc (.cells #[] 3)) := Below.alloc (show Below w.heap.size w (w.drewN nd) from ⟨rfl, rfl, rfl, Nat.le_refl _, fun _ _ => rfl⟩) (Nat.le_refl _) _
    exact ⟨some ⟨w.heap.size, 0, none⟩, 0, rfl, DAt.zero _ _ _ (by simp [maxLen]), hB, .inl rfl⟩
  · have hc : ¬ cmpI (n : Int) (m : Int) < 0 := by
      unfold cmpI; rw [if_neg (by omega)]; split <;> omega
    have hrx := hx.1
    have hry := hy.1
    have HXD := Lib.hid (D_dig n)
    have HYD := Lib.hid (D_dig m)
    have hlyx := D_mono (show m ≤ n by omega)
    have HV : Hid (val 10 (D n) - val 10 (D m) = n - m ∧ val 10 (D m) ≤ val 10 (D n)) := Lib.hid (by rw [val_D, val_D]; exact ⟨rfl, by omega⟩)
    clear hx hy hlt
    generalize D n = xs at *
    generalize D m = ys at *
    generalize n - m = s at *
    generalize cmpI (n : Int) (m : Int) = cm at *
    have H0 := Lib.hid (fun nd => OutD.start (w.drewN nd))
    go_enter Tryz.func68, Tryz.ntmps68
    go_wp2_with fail
    refine HCM.out.mono ?_
    rintro e w1 ⟨rfl, nd, rfl⟩
    have H1 := Lib.hid (H0.out nd)
    have hrx1 : Reads (w.drewN nd) ax (xs.map i64v) := hrx
    have hry1 : Reads (w.drewN nd) ay (ys.map i64v) := hry
    have HE0 : Hid (∀ e W, GivesD (w.drewN nd).heap.size s (w.drewN nd) e W → GivesD w.heap.size s w e W) := Lib.hid fun e W ⟨a, c, he, hd, hb, hn⟩ => ⟨a, c, he, hd, ⟨hb.os, hb.tape, hb.output, hb.size, hb.block⟩, hn⟩
    have HW : Hid (w.drewN nd = w.drewN nd) := Lib.hid rfl
    clear H0 HCM hrx hry HW
    go_wp2_with fail
    go_loopg [5, 6, 7] xs.length (fun k ov bv iv wr => ∃ a c O i b, ov = .slice a i c ∧ bv = .int .i64 (b : Nat) ∧ iv = .int .i64 (i : Nat) ∧ OutD (w.drewN nd) wr a c O ∧ SubDIn xs ys O i b ∧ i + k = xs.length)
    case atStart => exact ⟨_, _, [], 0, 0, rfl, rfl, rfl, H1.out, SubDIn.start _ _, by omega⟩
    case round =>
      obtain ⟨a, c, O, i, br, rfl, rfl, rfl, ho, hin, him⟩ := hrel
      have hil : i ≤ 1073741824 := by omega
      have HO := Lib.hid ho
      have HI := Lib.hid hin
      have HM := Lib.hid him
      have hbr := hin.b1
      clear ho hin H1
      by_cases hex : i < xs.length
      · have d1 : (i : Int) < (xs.length : Int) := by omega
        have d3 : decide (i < xs.length) = true := decide_eq_true (by omega)
        obtain ⟨x, hxe⟩ : ∃ x, x = xs.getD i 0 := ⟨_, rfl⟩
        obtain ⟨y, hye⟩ : ∃ y, y = ys.getD i 0 := ⟨_, rfl⟩
        have hxl : x < 10 := by rw [hxe]; exact HXD.out.getD i (by omega)
        have hyl : y < 10 := by rw [hye]; exact HYD.out.getD i (by omega)
        obtain ⟨g1, o1, rfl, hg1, hc1⟩ := (hrx1.kept HO.out.2).open' (by rw [List.length_map]; omega)
        have hck1 := hc1 i _ (map_getElem? (xs := xs) hex)
        rw [← hxe] at hck1
        unfold i64v at hck1
        clear hc1
        by_cases c2 : i < ys.length
        · by_cases hng : (x : Int) - (br : Int) - (y : Int) < 0
          · have e2 : i < ys.length := by omega
            have d2 : (i : Int) < (ys.length : Int) := by omega
            have d4 : decide (i < ys.length) = true := decide_eq_true (by omega)
            obtain ⟨g2, o2, rfl, hg2, hc2⟩ := (hry1.kept HO.out.2).open' (by rw [List.length_map]; omega)
            have hck2 := hc2 i _ (map_getElem? (xs := ys) e2)
            rw [← hye] at hck2
            unfold i64v at hck2
            clear hc2
            obtain ⟨S, hS⟩ : ∃ S : Int, (x : Int) - (br : Int) = S := ⟨_, rfl⟩
            have hSb : -1 ≤ S ∧ S ≤ 9 := by omega
            obtain ⟨hSb1, hSb2⟩ := hSb
            have hng' : ((x : Int) - (br : Int) - (y : Int)) < 0 := hng
            obtain ⟨T, hT⟩ : ∃ T : Int, S - (y : Int) = T := ⟨_, rfl⟩
            have hTn : T < 0 := by omega
            have hTm : -10 ≤ T := by omega
            obtain ⟨d, hd⟩ : ∃ d : Nat, T + 10 = (d : Int) := ⟨(T + 10).toNat, by omega⟩
            have HN := Lib.hid (HI.out.step (d := d) (b' := 1) (by omega) (by omega) (by rw [← hxe, ← hye]; omega))
            have HQ : Hid (i + 1 + (gk - 1) = xs.length ∧ 0 < gk) := Lib.hid (by have := HM.out; omega)
            obtain ⟨hO1, hcell⟩ := HO.out.ready d
            have hsz : w.heap.size ≤ wr.heap.size := HO.out.2.size
            clear him hxe hye hng hng' HM e2
            go_wp2_with (first | (at_builtin; refine wpList_append_one _ rfl (.tmp 41) (.tmp 43) 40 rfl 3 (.int .i64 0) 8 Tryz.underlying40 info_int rfl i64v w.heap.size a _ _ O rfl hO1 HI.out.len ⟨wr.heap.size, 0, none⟩ 1 d rfl hcell rfl (by unfold maxLen; omega) (by omega) (by simp; omega) ?_; intro g' cap' w' hrow' hcap hgrow hg') | fail)
            have HR := Lib.hid (HO.out.grow hrow' hcap hgrow hg')
            clear hrow' hgrow hO1 hcell
            go_wp2_with fail
            go_roundg (gk - 1)
            case rel => exact ⟨_, _, _, i + 1, 1, rfl, rfl, by go_num, HR.out, HN.out, HQ.out.1⟩
            case measure => have := HQ.out.2; omega
          · have e2 : i < ys.length := by omega
            have d2 : (i : Int) < (ys.length : Int) := by omega
            have d4 : decide (i < ys.length) = true := decide_eq_true (by omega)
            obtain ⟨g2, o2, rfl, hg2, hc2⟩ := (hry1.kept HO.out.2).open' (by rw [List.length_map]; omega)
            have hck2 := hc2 i _ (map_getElem? (xs := ys) e2)
            rw [← hye] at hck2
            unfold i64v at hck2
            clear hc2
            obtain ⟨S, hS⟩ : ∃ S : Int, (x : Int) - (br : Int) = S := ⟨_, rfl⟩
            have hSb : -1 ≤ S ∧ S ≤ 9 := by omega
            obtain ⟨hSb1, hSb2⟩ := hSb
            have hng' : ¬ ((x : Int) - (br : Int) - (y : Int)) < 0 := hng
            obtain ⟨d, hd⟩ : ∃ d : Nat, S - (y : Int) = (d : Int) := ⟨(S - (y : Int)).toNat, by omega⟩
            have HN := Lib.hid (HI.out.step (d := d) (b' := 0) (by omega) (by omega) (by rw [← hxe, ← hye]; omega))
            have HQ : Hid (i + 1 + (gk - 1) = xs.length ∧ 0 < gk) := Lib.hid (by have := HM.out; omega)
            obtain ⟨hO1, hcell⟩ := HO.out.ready d
            have hsz : w.heap.size ≤ wr.heap.size := HO.out.2.size
            clear him hxe hye hng hng' HM e2
            go_wp2_with (first | (at_builtin; refine wpList_append_one _ rfl (.tmp 41) (.tmp 43) 40 rfl 3 (.int .i64 0) 8 Tryz.underlying40 info_int rfl i64v w.heap.size a _ _ O rfl hO1 HI.out.len ⟨wr.heap.size, 0, none⟩ 1 d rfl hcell rfl (by unfold maxLen; omega) (by omega) (by simp; omega) ?_; intro g' cap' w' hrow' hcap hgrow hg') | fail)
            have HR := Lib.hid (HO.out.grow hrow' hcap hgrow hg')
            clear hrow' hgrow hO1 hcell
            go_wp2_with fail
            go_roundg (gk - 1)
            case rel => exact ⟨_, _, _, i + 1, 0, rfl, rfl, by go_num, HR.out, HN.out, HQ.out.1⟩
            case measure => have := HQ.out.2; omega
        · by_cases hng : (x : Int) - (br : Int) - (y : Int) < 0
          · have e2 : ¬ i < ys.length := by omega
            have d2 : ¬ (i : Int) < (ys.length : Int) := by omega
            have d4 : decide (i < ys.length) = false := decide_eq_false (by omega)
            have hny : y = 0 := by rw [hye]; exact getD_ge (by omega)
            have hng' : ((x : Int) - (br : Int) - (y : Int)) < 0 := hng
            obtain ⟨T, hT⟩ : ∃ T : Int, (x : Int) - (br : Int) = T := ⟨_, rfl⟩
            have hTn : T < 0 := by omega
            have hTm : -10 ≤ T := by omega
            obtain ⟨d, hd⟩ : ∃ d : Nat, T + 10 = (d : Int) := ⟨(T + 10).toNat, by omega⟩
            have HN := Lib.hid (HI.out.step (d := d) (b' := 1) (by omega) (by omega) (by rw [← hxe, ← hye]; omega))
            have HQ : Hid (i + 1 + (gk - 1) = xs.length ∧ 0 < gk) := Lib.hid (by have := HM.out; omega)
            obtain ⟨hO1, hcell⟩ := HO.out.ready d
            have hsz : w.heap.size ≤ wr.heap.size := HO.out.2.size
            clear him hxe hye hng hng' HM e2 hny
            go_wp2_with (first | (at_builtin; refine wpList_append_one _ rfl (.tmp 41) (.tmp 43) 40 rfl 3 (.int .i64 0) 8 Tryz.underlying40 info_int rfl i64v w.heap.size a _ _ O rfl hO1 HI.out.len ⟨wr.heap.size, 0, none⟩ 1 d rfl hcell rfl (by unfold maxLen; omega) (by omega) (by simp; omega) ?_; intro g' cap' w' hrow' hcap hgrow hg') | fail)
            have HR := Lib.hid (HO.out.grow hrow' hcap hgrow hg')
            clear hrow' hgrow hO1 hcell
            go_wp2_with fail
            go_roundg (gk - 1)
            case rel => exact ⟨_, _, _, i + 1, 1, rfl, rfl, by go_num, HR.out, HN.out, HQ.out.1⟩
            case measure => have := HQ.out.2; omega
          · have e2 : ¬ i < ys.length := by omega
            have d2 : ¬ (i : Int) < (ys.length : Int) := by omega
            have d4 : decide (i < ys.length) = false := decide_eq_false (by omega)
            have hny : y = 0 := by rw [hye]; exact getD_ge (by omega)
            have hng' : ¬ ((x : Int) - (br : Int) - (y : Int)) < 0 := hng
            obtain ⟨d, hd⟩ : ∃ d : Nat, (x : Int) - (br : Int) = (d : Int) := ⟨((x : Int) - (br : Int)).toNat, by omega⟩
            have HN := Lib.hid (HI.out.step (d := d) (b' := 0) (by omega) (by omega) (by rw [← hxe, ← hye]; omega))
            have HQ : Hid (i + 1 + (gk - 1) = xs.length ∧ 0 < gk) := Lib.hid (by have := HM.out; omega)
            obtain ⟨hO1, hcell⟩ := HO.out.ready d
            have hsz : w.heap.size ≤ wr.heap.size := HO.out.2.size
            clear him hxe hye hng hng' HM e2 hny
            go_wp2_with (first | (at_builtin; refine wpList_append_one _ rfl (.tmp 41) (.tmp 43) 40 rfl 3 (.int .i64 0) 8 Tryz.underlying40 info_int rfl i64v w.heap.size a _ _ O rfl hO1 HI.out.len ⟨wr.heap.size, 0, none⟩ 1 d rfl hcell rfl (by unfold maxLen; omega) (by omega) (by simp; omega) ?_; intro g' cap' w' hrow' hcap hgrow hg') | fail)
            have HR := Lib.hid (HO.out.grow hrow' hcap hgrow hg')
            clear hrow' hgrow hO1 hcell
            go_wp2_with fail
            go_roundg (gk - 1)
            case rel => exact ⟨_, _, _, i + 1, 0, rfl, rfl, by go_num, HR.out, HN.out, HQ.out.1⟩
            case measure => have := HQ.out.2; omega
      · have d1 : ¬ (i : Int) < (xs.length : Int) := by omega
        have d3 : decide (i < xs.length) = false := decide_eq_false (by omega)
        have HC := Lib.hid (HO.out.cut HI.out.dig ((HI.out.done (by omega) (by omega) HV.out.2).trans HV.out.1))
        rw [HI.out.len] at HC
        clear hex HM him
        go_wp2_with fail
        refine HC.out.mono ?_
        rintro e w2 hgd
        obtain ⟨a2, c2, rfl, hd2, hb2⟩ := HE0.out _ _ hgd
        have HE := Lib.hid (And.intro hd2 hb2)
        clear hd2 hb2 HC hgd
        go_wp2_with fail
        go_ret
        exact ⟨a2, c2, rfl, HE.out.1, HE.out.2⟩
end Go.Proofs.YtpjeecahaeaajaaGreatDoor

set_option linter.unusedVariables false
set_option linter.unusedSimpArgs false
namespace Go.Proofs.YtpjeecahaeaajaaGreatDoor
open Go.RowKit Rep
def MulDOut (w : World) (xs ys : List Nat) (i : Nat) (wr : World) : Prop :=
  ∃ Q : List Nat, Row 3 wr w.heap.size (xs.length + ys.length + 1) (Q.map i64v) ∧ Q.length = xs.length + ys.length + 1 ∧ Dig 10 Q ∧ val 10 Q = val 10 (xs.take i) * val 10 ys ∧ (∀ j, i + ys.length ≤ j → Q.getD j 0 = 0) ∧ Below w.heap.size w wr
def MulDIn (w : World) (xs ys : List Nat) (i k c : Nat) (wr : World) : Prop :=
  ∃ Q : List Nat, Row 3 wr w.heap.size (xs.length + ys.length + 1) (Q.map i64v) ∧ Q.length = xs.length + ys.length + 1 ∧ Dig 10 Q ∧ val 10 Q + 10 ^ (i + k) * c = val 10 (xs.take i) * val 10 ys + 10 ^ i * (xs.getD i 0 * val 10 (ys.take k)) ∧
    (∀ j, i + max k ys.length ≤ j → Q.getD j 0 = 0) ∧ c ≤ 9 ∧ (k ≤ ys.length ∨ (k = ys.length + 1 ∧ c = 0)) ∧ Below w.heap.size w wr
theorem MulDOut.start (w : World) (xs ys : List Nat) : MulDOut w xs ys 0 (w.alloc (.cells (zrow .i64 (xs.length + ys.length + 1)) 3)) := by
  refine ⟨List.replicate (xs.length + ys.length + 1) 0, ?_, by simp, Dig.replicate _ _ _ (by omega), by simp [val_zeros, val], fun j _ => ?_, (Below.refl _ _).alloc (Nat.le_refl _) _⟩
  · have := Row.zrow (E := 3) .i64 w (xs.length + ys.length + 1)
    rw [List.map_replicate]
    exact this
  · simp [List.getD_eq_getElem?_getD, List.getElem?_replicate]; split <;> rfl
theorem MulDOut.enter {w wr : World} {xs ys : List Nat} {i : Nat} (h : MulDOut w xs ys i wr) : MulDIn w xs ys i 0 0 wr := by
  obtain ⟨Q, h1, h2, h3, h4, h5, h6⟩ := h
  exact ⟨Q, h1, h2, h3, by simp [val, h4], fun j hj => h5 j (by omega), by omega, .inl (by omega), h6⟩
theorem MulDIn.leave {w wr : World} {xs ys : List Nat} {i k : Nat} (h : MulDIn w xs ys i k 0 wr) (hk : ys.length ≤ k) : MulDOut w xs ys (i + 1) wr := by
  obtain ⟨Q, h1, h2, h3, h4, h5, h6, h7, h8⟩ := h
  refine ⟨Q, h1, h2, h3, ?_, fun j hj => h5 j (by omega), h8⟩
  rw [List.take_of_length_le hk, Nat.mul_zero, Nat.add_zero] at h4
  rw [h4, val_take_succ', Nat.add_mul, Nat.mul_assoc]
theorem MulDIn.step {w wr : World} {xs ys : List Nat} {i k c : Nat} (h : MulDIn w xs ys i k c wr) (hy : Dig 10 ys) (hx : Dig 10 xs) (hi : i < xs.length) (hgo : k < ys.length ∨ 0 < c) :
    ∃ q : Nat, q < 10 ∧ c ≤ 9 ∧ k ≤ ys.length ∧ wr.cell? ⟨w.heap.size, i + k, none⟩ = some (.int .i64 (q : Int)) ∧ wr.frozen? ⟨w.heap.size, i + k, none⟩ = false ∧
      ∀ T d c' : Nat, T = q + c + xs.getD i 0 * ys.getD k 0 → d = T % 10 → c' = T / 10 → MulDIn w xs ys i (k + 1) c' (wr.setCell ⟨w.heap.size, i + k, none⟩ (.int .i64 (d : Int))) := by
  obtain ⟨Q, h1, h2, h3, h4, h5, h6, h7, h8⟩ := h
  have hk : k ≤ ys.length := by omega
  have hjl : i + k < Q.length := by omega
  refine ⟨Q.getD (i + k) 0, h3.getD _ (by omega), h6, hk, h1.cell _ _ (map_getElem? hjl), h1.frozen _, fun T d c' hT hd hc => ?_⟩
  have hq9 : Q.getD (i + k) 0 ≤ 9 := by have := h3.getD (i + k) (by omega); omega
  have hp : xs.getD i 0 * ys.getD k 0 ≤ 81 := by
    have a1 : xs.getD i 0 ≤ 9 := by have := hx.getD i (by omega); omega
    have a2 : ys.getD k 0 ≤ 9 := by have := hy.getD k (by omega); omega
    exact Nat.mul_le_mul a1 a2
  refine ⟨Q.set (i + k) d, ?_, by simpa using h2, h3.set _ _ (by omega), ?_, fun j hj => ?_, by omega, ?_, h8.setCell (by simp) _⟩
  · have := h1.set (i + k) (i64v d)
    rw [← List.map_set] at this
    exact this
  · have e1 := val_set 10 Q (i + k) d hjl
    rw [val_take_succ', show i + (k + 1) = i + k + 1 from rfl, Nat.pow_succ, Nat.mul_assoc (10 ^ (i + k))]
    have e2 : 10 ^ (i + k) * d + 10 ^ (i + k) * (10 * c') = 10 ^ (i + k) * T := by rw [← Nat.mul_add]; congr 1; omega
    have e3 : 10 ^ (i + k) * T = 10 ^ (i + k) * Q.getD (i + k) 0 + 10 ^ (i + k) * c + 10 ^ (i + k) * (xs.getD i 0 * ys.getD k 0) := by rw [hT, Nat.mul_add, Nat.mul_add]
    have e4 : 10 ^ (i + k) * (xs.getD i 0 * ys.getD k 0) = 10 ^ i * (xs.getD i 0 * (10 ^ k * ys.getD k 0)) := by rw [Nat.pow_add]; ac_rfl
    have e5 : 10 ^ i * (xs.getD i 0 * (val 10 (ys.take k) + 10 ^ k * ys.getD k 0)) = 10 ^ i * (xs.getD i 0 * val 10 (ys.take k)) + 10 ^ i * (xs.getD i 0 * (10 ^ k * ys.getD k 0)) := by rw [Nat.mul_add, Nat.mul_add]
    omega
  · rw [Rep.getD_set_ne (by omega)]
    exact h5 j (by omega)
  · rcases Nat.lt_or_ge k ys.length with hl | hl
    · exact .inl (by omega)
    · obtain rfl : k = ys.length := by omega
      have z1 : Q.getD (i + ys.length) 0 = 0 := h5 _ (by omega)
      have z2 : ys.getD ys.length 0 = 0 := getD_ge (Nat.le_refl _)
      rw [z1, z2, Nat.mul_zero] at hT
      exact .inr ⟨rfl, by omega⟩
theorem MulDIn.of_eq {w W W' : World} {xs ys : List Nat} {i k c : Nat} (h : MulDIn w xs ys i k c W) (e1 : W'.heap = W.heap) (e2 : W'.os = W.os) (e3 : W'.tape = W.tape) (e4 : W'.output = W.output) : MulDIn w xs ys i k c W' := by
  obtain ⟨Q, h1, h2, h3, h4, h5, h6, h7, h8⟩ := h
  exact ⟨Q, h1.of_block (by rw [e1]), h2, h3, h4, h5, h6, h7, ⟨e2.trans h8.os, e3.trans h8.tape, e4.trans h8.output, by rw [e1]; exact h8.size, fun j hj => by rw [e1]; exact h8.block j hj⟩⟩
set_option maxRecDepth 100000 in
set_option maxHeartbeats 4000000 in
theorem MulD_any (ax ay : Option Addr) (cx cy n m : Nat) (w : World) (hx : DAt w ax cx n) (hy : DAt w ay cy m) (lx : (D n).length ≤ 536870912) (ly : (D m).length ≤ 536870912) :
    Calls Tryz.prog 65 #[.slice ax (D n).length cx, .slice ay (D m).length cy] w (GivesD w.heap.size (n * m) w) := by
  have hrx := hx.1
  have hry := hy.1
  have HXD := Lib.hid (D_dig n)
  have HYD := Lib.hid (D_dig m)
  have HV : Hid (val 10 (D n) * val 10 (D m) = n * m) := Lib.hid (by rw [val_D, val_D])
  clear hx hy
  generalize D n = xs at *
  generalize D m = ys at *
  generalize n * m = s at *
  have hmk := make_run (P := Tryz.prog) Tryz.underlying40 info_int ((xs.length : Int) + (ys.length : Int) + 1) ((xs.length : Int) + (ys.length : Int) + 1) (xs.length + ys.length + 1) (xs.length + ys.length + 1) (by omega) (by omega) (Nat.le_refl _) (by omega) (by unfold maxLen; omega)
  have H0 := Lib.hid (MulDOut.start w xs ys)
  go_enter Tryz.func65, Tryz.ntmps65
  go_wp2_with fail
  clear hmk
  go_loopw [6] (fun iv wr => ∃ i : Nat, i ≤ xs.length ∧ iv = .int .i64 i ∧ MulDOut w xs ys i wr) (fun iv _ => xs.length - (intOf iv).toNat)
  case atStart => exact ⟨0, Nat.zero_le _, rfl, H0.out⟩
  case round =>
    obtain ⟨i, hi, rfl, hout⟩ := hrel
    have HO := Lib.hid hout
    clear hout H0
    by_cases hlt : i < xs.length
    · have d1 : (i : Int) < (xs.length : Int) := by omega
      have d1' : decide (i < xs.length) = true := decide_eq_true (by omega)
      have hBB : Below w.heap.size w wr := by obtain ⟨Q, _, _, _, _, _, hB⟩ := HO.out; exact hB
      have HI := Lib.hid HO.out.enter
      clear hBB HO
      go_wp2_with fail
      go_loopw [7, 8] (fun cv kv wr => ∃ k c : Nat, cv = .int .i64 c ∧ kv = .int .i64 k ∧ k ≤ ys.length + 1 ∧ MulDIn w xs ys i k c wr) (fun _ kv _ => ys.length + 1 - (intOf kv).toNat)
      case atStart => exact ⟨0, 0, rfl, rfl, by omega, HI.out⟩
      case round =>
        obtain ⟨k, c, rfl, rfl, hk1, hin⟩ := hrel
        have HN := Lib.hid hin
        have hB2 : Below w.heap.size w wr := by obtain ⟨Q, _, _, _, _, _, _, _, hB⟩ := hin; exact hB
        clear hin HI
        by_cases hgo : k < ys.length ∨ 0 < c
        · obtain ⟨q, hq, hc9, hky, hcq, hfq, hnext⟩ := HN.out.step HYD.out HXD.out hlt hgo
          obtain ⟨j, hj⟩ : ∃ j : Nat, (i : Int) + (k : Int) = (j : Int) := ⟨i + k, by omega⟩
          have hje : i + k = j := by omega
          rw [hje] at hcq hfq hnext
          have hjl : j < xs.length + ys.length + 1 := by omega
          obtain ⟨x, hxe⟩ : ∃ x, x = xs.getD i 0 := ⟨_, rfl⟩
          obtain ⟨y, hye⟩ : ∃ y, y = ys.getD k 0 := ⟨_, rfl⟩
          have hx9 : x ≤ 9 := by have := HXD.out.getD i (by omega); omega
          have hy9 : y ≤ 9 := by have := HYD.out.getD k (by omega); omega
          rw [← hxe, ← hye] at hnext
          obtain ⟨S, hS⟩ : ∃ S : Nat, (q : Int) + (c : Int) = (S : Int) := ⟨q + c, by omega⟩
          have hSb : S ≤ 18 := by omega
          clear hje
          by_cases hkl : k < ys.length
          · have d2 : (k : Int) < (ys.length : Int) := by omega
            have d2' : decide (k < ys.length) = true := decide_eq_true (by omega)
            obtain ⟨g1, o1, rfl, hg1, hc1⟩ := (hrx.kept hB2).open' (by rw [List.length_map]; omega)
            have hck1 := hc1 i _ (map_getElem? (xs := xs) hlt)
            rw [← hxe] at hck1
            obtain ⟨g2, o2, rfl, hg2, hc2⟩ := (hry.kept hB2).open' (by rw [List.length_map]; omega)
            have hck2 := hc2 k _ (map_getElem? (xs := ys) hkl)
            rw [← hye] at hck2
            unfold i64v at hck1 hck2
            have hp81 : x * y ≤ 81 := Nat.mul_le_mul hx9 hy9
            obtain ⟨p, hp⟩ : ∃ p : Nat, (x : Int) * (y : Int) = (p : Int) := ⟨x * y, by rw [Int.natCast_mul]⟩
            have hpe : p = x * y := by rw [← Int.natCast_mul] at hp; omega
            have hpb : p ≤ 81 := by omega
            obtain ⟨T, hT⟩ : ∃ T : Nat, (S : Int) + (p : Int) = (T : Int) := ⟨S + p, by omega⟩
            have hTb : T ≤ 99 := by omega
            obtain ⟨d, hd⟩ : ∃ d : Nat, (T : Int) % 10 = (d : Int) := ⟨T % 10, by omega⟩
            obtain ⟨c', hc'⟩ : ∃ c' : Nat, (T : Int) / 10 = (c' : Int) := ⟨T / 10, by omega⟩
            have HX := Lib.hid (hnext T d c' (by omega) (by omega) (by omega))
            have hi0 : (0 : Int) ≤ (i : Int) := by omega
            have hk0 : (0 : Int) ≤ (k : Int) := by omega
            have hwp : IntKind.i64.wrap (p : Int) = (p : Int) := IntWalk.i64_in _ (by omega)
            have hwT : IntKind.i64.wrap (T : Int) = (T : Int) := IntWalk.i64_in _ (by omega)
            clear hnext hc1 hc2 hxe hye hpe hp81 HN hgo
            go_wp2_with fail
            go_quiet (fail)
            clear hwp hwT
            go_wp2_with fail
            go_roundw
            case rel => exact ⟨k + 1, c', rfl, by go_num, by omega, HX.out.of_eq rfl rfl rfl rfl⟩
            case measure => simp [intOf]; omega
          · have d2 : ¬ (k : Int) < (ys.length : Int) := by omega
            have d2' : decide (k < ys.length) = false := decide_eq_false (by omega)
            have d3 : (0 : Int) < (c : Int) := by omega
            have hy0 : y = 0 := by rw [hye]; exact getD_ge (by omega)
            obtain ⟨d, hd⟩ : ∃ d : Nat, (S : Int) % 10 = (d : Int) := ⟨S % 10, by omega⟩
            obtain ⟨c', hc'⟩ : ∃ c' : Nat, (S : Int) / 10 = (c' : Int) := ⟨S / 10, by omega⟩
            have HX := Lib.hid (hnext S d c' (by rw [hy0, Nat.mul_zero]; omega) (by omega) (by omega))
            clear hnext hxe hye hy0 HN hgo
            go_wp2_with fail
            go_roundw
            case rel => exact ⟨k + 1, c', rfl, by go_num, by omega, HX.out⟩
            case measure => simp [intOf]; omega
        · have hc0 : c = 0 := by omega
          subst hc0
          have d2 : ¬ (k : Int) < (ys.length : Int) := by omega
          have d2' : decide (k < ys.length) = false := decide_eq_false (by omega)
          have HX := Lib.hid (HN.out.leave (by omega))
          clear HN hgo
          go_wp2_with fail
          go_roundw
          case rel => exact ⟨i + 1, by omega, by go_num, HX.out⟩
          case measure => simp [intOf]; omega
    · obtain rfl : i = xs.length := by omega
      obtain ⟨Q, h1, h2, h3, h4, h5, h6⟩ := HO.out
      rw [List.take_length, HV.out] at h4
      have HC := Lib.hid (cut_D h1.reads0 (by rw [h2]; exact Nat.le_refl _) (by unfold maxLen; omega) h3 h4 h6 (.inr fun g off e => by cases e; exact Nat.le_refl _))
      rw [h2] at HC
      clear h1 h2 h3 h4 h5 h6 HO
      go_wp2_with fail
      refine HC.out.mono ?_
      rintro e w2 ⟨a2, c2, rfl, hd2, hb2⟩
      have HE := Lib.hid (And.intro hd2 hb2)
      clear hd2 hb2 HC
      go_wp2_with fail
      go_ret
      exact ⟨a2, c2, rfl, HE.out.1, HE.out.2⟩
end Go.Proofs.YtpjeecahaeaajaaGreatDoor
