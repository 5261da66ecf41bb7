/- By program out of: LnMerge, LnPo. -/
import Derived.Test.YtpjeecahaeaajaaGreatDoorMlkimak
set_option linter.unusedVariables false
set_option linter.unusedSimpArgs false
namespace Go.Proofs.YtpjeecahaeaajaaGreatDoor
open Go.RowKit Rep Ln
theorem one_ok {d : RM} {x : Mo} {W : World} (h : d.ok x W) : ∀ (k : Nat) (d' : RM) (x' : Mo), [d][k]? = some d' → [x][k]? = some x' → d'.ok x' W := by
 intro k d' x' h1 h2
 rcases k with _ | k
 ·simp at h1 h2
  subst h1 h2
  exact h
 ·simp at h1
set_option maxRecDepth 100000 in
set_option maxHeartbeats 16000000 in
theorem merge_any {w : World} {b m : Nat} {o : Bool} {ms1 ms2 : List Mo} {a1 a2 : Option Addr} {cp1 cp2 : Nat} {rs1 rs2 : List RM} (hB : Bench w b m o) (hT : Tab w)
    (h1 : MsAt w a1 rs1 ms1) (h2 : MoreAt w a2 cp2 rs2 ms2) (z1 : ∀ x ∈ ms1, szQ x.2 ≤ 1900) (z2 : ∀ x ∈ ms2, szQ x.2 ≤ 1900) (hn1 : rs1.length ≤ 1000) (hn2 : rs2.length ≤ 1000) :
    Calls Tryz.prog 35 #[.pointer (some ⟨b, 0, none⟩), .slice a1 rs1.length cp1, .slice a2 rs2.length cp2] w (GotM b m (o || mergeO m ms1 ms2) w (merge ms1 ms2)) := by
 have hmk := fun w => run_makeM (rs1.length + rs2.length) (by omega) w
 have HB0 := Lib.hid (And.intro hB hT)
 have H1 := Lib.hid (And.intro h1 z1)
 have H2 := Lib.hid (And.intro h2 z2)
 have hst := MgAt.start (n := rs1.length + rs2.length) hB hT
 have hcl : ((rs1.length : Int) + (rs2.length : Int)) = ((rs1.length + rs2.length : Nat) : Int) := by omega
 have hw1 : wrap64 ((rs1.length : Int) + (rs2.length : Int)) = ((rs1.length + rs2.length : Nat) : Int) := by rw [hcl]; exact IntWalk.wrap64_in _ (by omega)
 have HST := Lib.hid hst
 have HNN := Lib.hid (And.intro hn1 hn2)
 obtain ⟨n1, hn1'⟩ : ∃ n, rs1.length = n := ⟨_, rfl⟩
 obtain ⟨n2, hn2'⟩ : ∃ n, rs2.length = n := ⟨_, rfl⟩
 obtain ⟨n, hnn⟩ : ∃ n, rs1.length + rs2.length = n := ⟨_, rfl⟩
 have HN := Lib.hid (And.intro hn1' (And.intro hn2' hnn))
 rw [hnn] at hmk hst HST hw1
 rw [hn1'] at hw1 ⊢
 rw [hn2'] at hw1 ⊢
 clear hB hT h1 h2 z1 z2 hst hcl hn1 hn2 hn1' hn2' hnn
 go_enter Tryz.func35, Tryz.ntmps35
 go_wp2_with fail
 go_loopw [18, 7, 2] (fun (iv sv mv : Value) (wr : World) => ∃ (j : Nat) (ts rsm : List RM) (acc more : List Mo) (am : Option Addr) (cm : Nat) (oj : Bool), j ≤ n1 ∧ iv = .int .i64 (j : Int) ∧ sv = .slice (some ⟨w.heap.size, 0, none⟩) ts.length n ∧ mv = .slice am rsm.length cm ∧ Hid (MoreAt w am cm rsm more) ∧ Hid (MgAt w b m oj w.heap.size n ts acc wr) ∧ Hid (ts.length + rsm.length + (n1 - j) ≤ n) ∧ Hid (∀ x ∈ more, szQ x.2 ≤ 1900) ∧ Hid (acc ++ merge (ms1.drop j) more = merge ms1 ms2 ∧ (oj || mergeO m (ms1.drop j) more) = (o || mergeO m ms1 ms2))) (fun iv _ _ _ => n1 - (intOf iv).toNat)
 case atStart => exact ⟨0, [], rs2, [], ms2, a2, cp2, o, Nat.zero_le _, rfl, rfl, by rw [← HN.out.2.1], Lib.hid H2.out.1, HST, Lib.hid (by have := HN.out; simp; omega), Lib.hid H2.out.2, Lib.hid ⟨rfl, rfl⟩⟩
 case round =>
  obtain ⟨j, ts0, rsm0, acc0, more0, am0, cm0, oj, hjn, rfl, rfl, rfl, HAD0, HG0, HTL0, HSZ0, HTOT0⟩ := hrel
  by_cases hlt : j < n1
  ·obtain ⟨d, x, g, off, hd, hx, rfl, hok, hr⟩ := (H1.out.1.bench HB0.out.1 HG0.out.r).get (k := j) (by have := H1.out.1.len; have := HN.out; omega)
   have hzx := H1.out.2 x (List.mem_of_getElem? hx)
   obtain ⟨v, s, z1, m1, k1, z2, m2, k2⟩ := d
   obtain ⟨xv, xq⟩ := x
   obtain ⟨hv, hq⟩ := hok
   dsimp only [RM.raw] at hv hq hzx
   subst hv
   have hdr : ms1.drop j = (v, xq) :: ms1.drop (j + 1) := drop_at hx
   rw [hdr] at HTOT0
   have hal := (Below.refl wr.heap.size wr).alloc (Nat.le_refl _) (.cells #[.int .i64 v, .bool s, .slice z1 m1 k1, .slice z2 m2 k2] 51)
   have HG6 := Lib.hid (HG0.out.kept hal)
   have HCU : Hid (CurAt w wr.heap.size w.heap.size (wr.alloc (.cells #[.int .i64 v, .bool s, .slice z1 m1 k1, .slice z2 m2 k2] 51)) v s z1 m1 k1 z2 m2 k2) := Lib.hid ⟨heap_alloc_new wr _, HG0.out.r.size, by have := HG0.out.row.lt; omega⟩
   have HXO : Hid (∀ p W, BR b m p w W → VQ xq (s, (z1, m1, k1), (z2, m2, k2)) W) := Lib.hid fun p W h => h.vq HB0.out.1 (H1.out.1.vals j _ _ hd hx).q
   have HZX := Lib.hid hzx
   have HLT : Hid (b < w.heap.size) := Lib.hid HG0.out.lt0
   have hji : (j : Int) < (n1 : Int) := by omega
   have hiw : wrap64 ((j : Int) + 1) = (j : Int) + 1 := IntWalk.wrap64_in _ (by have := HN.out; have := HNN.out; omega)
   have hr4 : wr.rangeAt g (off + j * 4) [.int .i64 v, .bool s, .slice z1 m1 k1, .slice z2 m2 k2] := hr
   clear hd hx hq hzx hal hr hdr hw1 hmk HST
   go_wp2_with (first | (refine wpList_val (.agg #[.int .i64 v, .bool s, .slice z1 m1 k1, .slice z2 m2 k2]) (run_load_op 51 (.tmp 20) (by with_reducible rfl) g (off + j * 4) (by rfl) _ _ hr4 Tryz.underlying51 rfl (by rw [size_mono]; rfl)) (by rfl) ?_) | (with_reducible refine wpList_alloc_agg rfl 51 rfl zMono zero_mono ?_) | (refine wpList_store_new rfl 51 (.tmp 9) (.tmp 21) (by with_reducible rfl) wr zMono #[.int .i64 v, .bool s, .slice z1 m1 k1, .slice z2 m2 k2] (by rfl) (by rfl) (by rfl) (by rw [size_mono]; rfl) (by rfl) (one_mono ⟨v, s, z1, m1, k1, z2, m2, k2⟩) ?_))
   simp only [Act.put, List.setIfInBounds_toArray, List.set_cons_zero, List.set_cons_succ]
   generalize wr.alloc (.cells #[.int .i64 v, .bool s, .slice z1 m1 k1, .slice z2 m2 k2] 51) = wB at *
   generalize wr.heap.size = M at *
   go_loopw [7, 2] (fun (sv mv : Value) (wr : World) => ∃ (more : List Mo) (ts rsm : List RM) (acc : List Mo) (am : Option Addr) (cm : Nat), sv = .slice (some ⟨w.heap.size, 0, none⟩) ts.length n ∧ mv = .slice am rsm.length cm ∧ Hid (MoreAt w am cm rsm more) ∧ Hid (MgAt w b m oj w.heap.size n ts acc wr) ∧ Hid (CurAt w M w.heap.size wr v s z1 m1 k1 z2 m2 k2) ∧ Hid (ts.length + rsm.length + (n1 - j) ≤ n) ∧ Hid (∀ x ∈ more, szQ x.2 ≤ 1900) ∧ Hid (acc ++ merge ((v, xq) :: ms1.drop (j + 1)) more = merge ms1 ms2 ∧ (oj || mergeO m ((v, xq) :: ms1.drop (j + 1)) more) = (o || mergeO m ms1 ms2))) (fun _ mv _ => sliceLen mv)
   case atStart => exact ⟨more0, ts0, rsm0, acc0, am0, cm0, rfl, rfl, HAD0, HG6, HCU, HTL0, HSZ0, HTOT0⟩
   case round =>
    obtain ⟨more, ts, rsm, acc, am, cm, rfl, rfl, HAD, HG2, HC2, HTL, HSZ, HTOT⟩ := hrel
    clear HAD0 HG0 HTL0 HSZ0 HTOT0 HG6 HCU hr4
    obtain ⟨q0, q1, q2, q3, _⟩ := cellsL4 HC2.out.blk
    rcases more with _ | ⟨y, more'⟩
    ·have hrz : rsm = [] := List.eq_nil_of_length_eq_zero (by have := HAD.out.ms.len; simpa using this)
     subst hrz
     have HNM : Hid (([] : List RM).length = 0) := Lib.hid rfl
     have HTOT2 : Hid (acc ++ keep (v, xq) ++ merge (ms1.drop (j + 1)) [] = merge ms1 ms2 ∧ (oj || ovQ m xq || mergeO m (ms1.drop (j + 1)) []) = (o || mergeO m ms1 ms2)) := Lib.hid (by
      obtain ⟨h1, h2⟩ := HTOT.out
      rw [(merge_none (m := m)).1] at h1
      rw [(merge_none (m := m)).2] at h2
      exact ⟨by rw [List.append_assoc]; exact h1, by rw [Bool.or_assoc]; exact h2⟩)
     have HSZ2 := HSZ
     go_wp2_with fail
     go_quiet (fail)
     have hdA : Below wr.heap.size wr (wr.drewN nq) := Below.drewN' (Below.refl _ _) nq
     have HGA := Lib.hid (HG2.out.kept hdA)
     have HCA := Lib.hid (HC2.out.kept hdA)
     have HDA := Lib.hid hdA
     clear hdA
     generalize wr.drewN nq = wA at *
     go_wp2_with fail
     go_quiet (fail)
     have hdB : Below wA.heap.size wA (wA.drewN nq) := Below.drewN' (Below.refl _ _) nq
     have HGB := Lib.hid (HGA.out.kept hdB)
     have HCB := Lib.hid (HCA.out.kept hdB)
     have HDB := Lib.hid hdB
     clear hdB
     generalize wA.drewN nq = wB2 at *
     obtain ⟨q0, q1, q2, q3, _⟩ := cellsL4 HCB.out.blk
     have HAN := Lib.hid (answer_any HGB.out.r.bench HGB.out.r.tab (HXO.out _ _ HGB.out.r) (by have := HZX.out; omega))
     have HSQ : Hid (szQ xq ≤ 1000000) := Lib.hid (by have := HZX.out; omega)
     go_wp2_with fail
     refine HAN.out.mono ?_
     rintro e w7 ⟨s8, e1, f1, g1, e2, f2, g2, rfl, hr7, hv7⟩
     obtain ⟨nn, hN7, hZ7, hO7⟩ := ans_num hv7.out (by have := HSQ.out; omega)
     have hC7 := HCB.out.bench HLT.out hr7.out
     have hM7 := hC7.blk
     obtain ⟨hM8, hg8⟩ := mono_set (t := s8) (y1 := .slice e1 f1 g1) (y2 := .slice e2 f2 g2) hM7
     have hno7 := noLimbM hM7
     obtain ⟨w8, hw8⟩ : ∃ w8, w8 = (((w7.setCell ⟨M, 1, none⟩ (.bool s8)).setCell ⟨M, 2, none⟩ (.slice e1 f1 g1)).setCell ⟨M, 3, none⟩ (.slice e2 f2 g2)) := ⟨_, rfl⟩
     rw [← hw8] at hM8 hg8
     have HS8 := Lib.hid ((HGB.out.bench hr7.out (fun e => (Bool.or_eq_false_iff.1 e).1)).past hg8 hC7.ge hC7.ne hno7)
     have HM8 := Lib.hid hM8
     have HN8 := Lib.hid (hN7.pastL hno7 hg8)
     have HD8 : Hid ((oj || ovQ m xq) = false → RM.ok ⟨v, s8, e1, f1, g1, e2, f2, g2⟩ (v, xq) w8) := Lib.hid fun e => ⟨rfl, (hO7 e).pastL hno7 hg8⟩
     have HZE : Hid ((oj || ovQ m xq) = false → nn = 0 → mgQ (xq) = 0) := Lib.hid fun e h => by rw [← hZ7 e]; exact h
     have HZN : Hid ((oj || ovQ m xq) = false → mgQ (xq) = 0 → nn = 0) := Lib.hid fun e h => by rw [hZ7 e]; exact h
     have HW8 := Lib.hid hw8
     have HG8 := Lib.hid hg8
     obtain ⟨_, _, _, _, p0, p1, p2, p3⟩ := cellsL4 hM7
     clear hr7 hv7 hN7 hZ7 hO7 hC7 hM7 hM8 hg8 hno7 hw8 HAN q0 q1 q2 q3
     have HSG := Lib.hid (SignE (s := s8) (a2 := e2) (l2 := f2) (c2 := g2) HN8.out)
     go_wp2_with fail
     rw [← HW8.out]
     refine HSG.out.mono ?_
     rintro e w9 ⟨x9, rfl, hx0, hb9⟩
     have HS9 := Lib.hid (HS8.out.kept hb9.out)
     have HM9 := Lib.hid (stayL HM8.out hb9.out)
     have HD9 := Lib.hid (fun e => (HD8.out e).kept hb9.out)
     clear HSG HS8 HM8 HD8 hb9 HW8
     by_cases hz : nn = 0
     ·have HFIN := Lib.hid (HS9.out.said (ms' := acc ++ keep (v, xq)) fun e => by
       rw [keep_none (HZE.out e hz), List.append_nil])
      rw [decide_eq_true hz] at hx0
      clear hz
      go_wp2_with fail
      go_roundw
      case rel => exact ⟨j + 1, ts, [], acc ++ keep (v, xq), [], _, _, _, by omega, by go_num, rfl, by simp [HNM.out], Lib.hid HAD.out, HFIN, Lib.hid (by have := HTL.out; have := HNM.out; (try simp only [List.length_append, List.length_cons, List.length_nil] at *); omega), HSZ2, HTOT2⟩
      case measure => exact measure_next hiw hlt
     ·rw [decide_eq_false hz] at hx0
      have hr9 := range4 HM9.out
      have hal := (Below.refl w9.heap.size w9).alloc (Nat.le_refl _) (.cells #[.int .i64 v, .bool s8, .slice e1 f1 g1, .slice e2 f2 g2] 51)
      have HS10 := Lib.hid (HS9.out.kept hal)
      have HD10 := Lib.hid (fun e => (HD9.out e).kept hal)
      have HNW : Hid (∀ (i : Nat) (u : Value), [Value.int .i64 v, .bool s8, .slice e1 f1 g1, .slice e2 f2 g2][i]? = some u → (w9.alloc (.cells #[.int .i64 v, .bool s8, .slice e1 f1 g1, .slice e2 f2 g2] 51)).cell? ((⟨w9.heap.size, 0, none⟩ : Addr).add i) = some u) := Lib.hid fun i u hu => by
       rw [Addr.add_mid]
       exact rangeAt_new w9 [.int .i64 v, .bool s8, .slice e1 f1 g1, .slice e2 f2 g2] _ i u hu
      have HOW := Lib.hid HS10.out.row
      have HPU := Lib.hid (fun w11 (h1' : OwnM w11 w.heap.size n (ts.length + 1) (cellsM ts ++ [.int .i64 v, .bool s8, .slice e1 f1 g1, .slice e2 f2 g2])) h2' => (HS10.out.push (ds := [⟨v, s8, e1, f1, g1, e2, f2, g2⟩]) (xs := [(v, xq)]) (fun e => ⟨rfl, one_ok (HD10.out e)⟩) (by rw [cellsM_one]; exact h1') h2').said (ms' := acc ++ keep (v, xq)) (fun e => by rw [keep_some (fun e2 => hz (HZN.out e e2))]))
      have HRM : Hid (ts.length + 1 ≤ n) := Lib.hid (by have := HTL.out; omega)
      have HON : Hid ((∀ u ∈ [Value.int .i64 v, .bool s8, .slice e1 f1 g1, .slice e2 f2 g2], u.oneCell' = true) ∧ (∀ u ∈ [Value.int .i64 v, .bool s8, .slice e1 f1 g1, .slice e2 f2 g2], GoodM u)) := Lib.hid ⟨by
       intro u hu
       simp only [List.mem_cons, List.not_mem_nil, or_false] at hu
       rcases hu with rfl | rfl | rfl | rfl <;> rfl, goodM_cells ⟨v, s8, e1, f1, g1, e2, f2, g2⟩⟩
      clear hz hal HM9 HD9 HS9
      go_wp2_with (first | (refine wpList_val (.agg #[.int .i64 v, .bool s8, .slice e1 f1 g1, .slice e2 f2 g2]) (run_load_op 51 (.tmp 9) (by with_reducible rfl) M 0 (by rfl) _ _ hr9 Tryz.underlying51 rfl (by rw [size_mono]; rfl)) (by rfl) ?_) | (at_builtin; refine wpList_appM rfl (.tmp 74) (.tmp 76) rfl w.heap.size ts.length n (cellsM ts) (by rfl) HOW.out ⟨w9.heap.size, 0, none⟩ 1 1 [.int .i64 v, .bool s8, .slice e1 f1 g1, .slice e2 f2 g2] (by rfl) (by rfl) HNW.out HON.out.1 HON.out.2 HRM.out ?_; intro w11 hown hgr; have HS12 := Lib.hid (HPU.out w11 hown hgr); clear hown hgr))
      go_roundw
      case rel => exact ⟨j + 1, ts ++ [⟨v, s8, e1, f1, g1, e2, f2, g2⟩], [], acc ++ keep (v, xq), [], _, _, _, by omega, by go_num, by simp, by simp [HNM.out], Lib.hid HAD.out, HS12, Lib.hid (by have := HTL.out; have := HNM.out; (try simp only [List.length_append, List.length_cons, List.length_nil] at *); omega), HSZ2, HTOT2⟩
      case measure => exact measure_next hiw hlt
    ·obtain ⟨yv, yq⟩ := y
     obtain ⟨⟨yv', ys, ya, yl, yc, yb, yk, ye⟩, rs', yg, yo, rfl, rfl, hyok, hyr, hc1, had, had1⟩ := HAD.out.one
     obtain ⟨hyv, hyq⟩ := hyok
     dsimp only [RM.raw] at hyv hyq
     subst hyv
     have HYO : Hid (∀ p W, BR b m p w W → VQ yq (ys, (ya, yl, yc), (yb, yk, ye)) W) := Lib.hid fun p W h => h.vq HB0.out.1 hyq
     have HYB : Hid (yg ≠ b) := Lib.hid (bench_apart (d := ⟨yv', ys, ya, yl, yc, yb, yk, ye⟩) hyr HB0.out.1)
     have HYW : Hid (yg < w.heap.size) := Lib.hid (rangeAt_lt hyr (by simp [RM.cells]))
     have HYG : Hid (yg ≠ w.heap.size) := Lib.hid (by have := HYW.out; omega)
     have HYR : Hid (∀ p W, BR b m p w W → W.rangeAt yg yo [.int .i64 yv', .bool ys, .slice ya yl yc, .slice yb yk ye]) := Lib.hid fun p W h => rangeAt_grown hyr h.g HYB.out
     have HZY := Lib.hid (HSZ.out (yv', yq) (by simp))
     have HHAD := Lib.hid (And.intro hc1 (And.intro had had1))
     obtain ⟨nm, hnm⟩ : ∃ nm, nm = (RM.mk yv' ys ya yl yc yb yk ye :: rs').length := ⟨_, rfl⟩
     have HNM0 := Lib.hid hnm
     have HNM : Hid (nm = rs'.length + 1) := Lib.hid (by rw [hnm]; simp)
     have hnp : 0 < nm := by rw [hnm]; simp
     have hnI : (0 : Int) < (nm : Int) := by omega
     have hnd : decide ((0 : Int) < (nm : Int)) = true := decide_eq_true hnI
     have hn1 : 1 ≤ nm := hnp
     have hn1I : (1 : Int) ≤ (nm : Int) := by omega
     have hcm : nm ≤ cm := by have := HAD.out.le; rw [hnm]; exact this
     have hcmI : (1 : Int) ≤ (cm : Int) := by omega
     rw [← hnm] at HTL ⊢
     have hr2 := HYR.out _ _ HG2.out.r
     have hy0 : wr.cell? ⟨yg, yo, none⟩ = some (.int .i64 yv') := hr2 0 _ rfl
     clear hyr hyq hc1 had had1 hnm
     by_cases hlo : yv' < v
     ·have hld : decide (yv' < v) = true := decide_eq_true hlo
      have HTOT1 : Hid (acc ++ [(yv', yq)] ++ merge ((v, xq) :: ms1.drop (j + 1)) more' = merge ms1 ms2 ∧ (oj || mergeO m ((v, xq) :: ms1.drop (j + 1)) more') = (o || mergeO m ms1 ms2)) := Lib.hid (by
       obtain ⟨h1, h2⟩ := HTOT.out
       rw [(merge_lower (m := m) (x := (v, xq)) (y := (yv', yq)) hlo).1] at h1
       rw [(merge_lower (m := m) (x := (v, xq)) (y := (yv', yq)) hlo).2] at h2
       exact ⟨by rw [List.append_assoc]; exact h1, h2⟩)
      have HON : Hid ((∀ u ∈ [Value.int .i64 yv', .bool ys, .slice ya yl yc, .slice yb yk ye], u.oneCell' = true) ∧ (∀ u ∈ [Value.int .i64 yv', .bool ys, .slice ya yl yc, .slice yb yk ye], GoodM u)) := Lib.hid ⟨by
       intro u hu
       simp only [List.mem_cons, List.not_mem_nil, or_false] at hu
       rcases hu with rfl | rfl | rfl | rfl <;> rfl, goodM_cells ⟨yv', ys, ya, yl, yc, yb, yk, ye⟩⟩
      have HRM : Hid (ts.length + 1 ≤ n) := Lib.hid (by have := HTL.out; omega)
      clear hlo
      go_wp2_with fail
      go_quiet (fail)
      have hdA : Below wr.heap.size wr (wr.drewN nq) := Below.drewN' (Below.refl _ _) nq
      have HGA := Lib.hid (HG2.out.kept hdA)
      have HCA := Lib.hid (HC2.out.kept hdA)
      have HDA := Lib.hid hdA
      clear hdA
      generalize wr.drewN nq = wA at *
      have hrA := HYR.out _ _ HGA.out.r
      clear hr2 hy0
      by_cases hc1 : cm = 1
      ·have had := HHAD.out.2.2 hc1
       have HADN := Lib.hid had
       have HL0 : Hid (rs'.length = 0) := Lib.hid (by have := HNM.out; omega)
       subst hc1
       clear had
       go_wp2_with fail
       refine wp_region_held_drew (S := (fun w' => w'.rangeAt yg yo [.int .i64 yv', .bool ys, .slice ya yl yc, .slice yb yk ye])) (by kernel_rfl) ?_ (fun hHeld => ?_)
       ·exact (rangeAt_kept hrA (below_drew wA) (rangeAt_lt hrA (by simp)))
       refine tkL 0 (v := ?_) ?_ hHeld ?_
       rotate_left 1
       ·intro w' hSw
        (try dsimp only at hSw)
        go_simp
        try with_reducible rfl
       try simp only [Act.put, zA, zB, zC, zD, zE, zF]
       refine tkL 1 (v := ?_) ?_ hHeld ?_
       rotate_left 1
       ·intro w' hSw
        (try dsimp only at hSw)
        go_simp
        try with_reducible rfl
       try simp only [Act.put, zA, zB, zC, zD, zE, zF]
       refine tkL 2 (v := ?_) ?_ hHeld ?_
       rotate_left 1
       ·intro w' hSw
        (try dsimp only at hSw)
        go_simp
        try with_reducible rfl
       try simp only [Act.put, zA, zB, zC, zD, zE, zF]
       refine tkL 3 (v := .agg #[.int .i64 yv', .bool ys, .slice ya yl yc, .slice yb yk ye]) ?_ hHeld ?_
       ·intro w' hSw
        exact run_load_op 51 (.tmp 36) (by rfl) yg yo (by rfl) _ _ hSw Tryz.underlying51 rfl (by rw [size_mono]; rfl)
       try simp only [Act.put, zA, zB, zC, zD, zE, zF]
       refine tkL 6 (v := ?_) ?_ hHeld ?_
       rotate_left 1
       ·intro w' hSw
        (try dsimp only at hSw)
        go_simp
        try with_reducible rfl
       try simp only [Act.put, zA, zB, zC, zD, zE, zF]
       refine tkL 7 (v := ?_) ?_ hHeld ?_
       rotate_left 1
       ·intro w' hSw
        (try dsimp only at hSw)
        go_simp
        try with_reducible rfl
       try simp only [Act.put, zA, zB, zC, zD, zE, zF]
       refine rdy [4] ?_
       refine AllReadyH.cons (by rfl) (fun K hK => ?_) AllReadyH.nil
       go_simp
       obtain ⟨w6, hw6⟩ : ∃ w6, w6 = (wA.alloc (.cells #[.int .i64 yv', .bool ys, .slice ya yl yc, .slice yb yk ye] 51)).drew := ⟨_, rfl⟩
       rw [← hw6]
       have hal : Below wA.heap.size wA w6 := by rw [hw6]; exact ((Below.refl _ _).alloc (Nat.le_refl _) _).drew
       have HG6 := Lib.hid (HGA.out.kept hal)
       have HC6 := Lib.hid (HCA.out.kept hal)
       have HNW : Hid (∀ (i : Nat) (u : Value), [Value.int .i64 yv', .bool ys, .slice ya yl yc, .slice yb yk ye][i]? = some u → w6.cell? ((⟨wA.heap.size, 0, none⟩ : Addr).add i) = some u) := Lib.hid fun i u hu => by
        rw [Addr.add_mid, hw6]
        exact rangeAt_new wA [.int .i64 yv', .bool ys, .slice ya yl yc, .slice yb yk ye] _ i u hu
       have hr6 := rangeAt_kept hrA hal (rangeAt_lt hrA (by simp))
       clear hal hw6
       refine hK.out _ _ ?_ (fun hHeld => ?_)
       ·exact hr6
       clear hK K
       try simp only [Act.put, zA, zB, zC, zD, zE, zF]
       refine rdy [5] ?_
       refine AllReadyH.cons (by rfl) (fun K hK => ?_) AllReadyH.nil
       refine step_appM rfl (.tmp 34) (.tmp 38) rfl w.heap.size ts.length n (cellsM ts) (by rfl) HG6.out.row ⟨wA.heap.size, 0, none⟩ 1 1 [.int .i64 yv', .bool ys, .slice ya yl yc, .slice yb yk ye] (by rfl) (by rfl) HNW.out HON.out.1 HON.out.2 HRM.out ?_
       intro w7 hown hgr
       have HG7 := Lib.hid (HG6.out.push (ds := [⟨yv', ys, ya, yl, yc, yb, yk, ye⟩]) (xs := [(yv', yq)]) (fun e => ⟨rfl, one_ok ⟨rfl, HYO.out _ _ HG6.out.r⟩⟩) (by rw [cellsM_one]; exact hown) hgr)
       have HC7 := Lib.hid (HC6.out.row hgr)
       have hr7 := rangeAt_grown hr6 hgr HYG.out
       clear hown hgr
       refine hK.out _ _ ?_ (fun hHeld => ?_)
       ·exact hr7
       clear hK K
       try simp only [Act.put, zA, zB, zC, zD, zE, zF]
       refine tkL 8 (v := ?_) ?_ hHeld ?_
       rotate_left 1
       ·intro w' hSw
        (try dsimp only at hSw)
        go_simp
        try with_reducible rfl
       try simp only [Act.put, zA, zB, zC, zD, zE, zF]
       refine tkL 9 (v := ?_) ?_ hHeld ?_
       rotate_left 1
       ·intro w' hSw
        (try dsimp only at hSw)
        go_simp
        try with_reducible rfl
       try simp only [Act.put, zA, zB, zC, zD, zE, zF]
       refine wpAnyH_done (by kernel_rfl) ?_ _
       clear hHeld
       go_wp2_with fail
       go_roundw
       case rel => exact ⟨more', ts ++ [⟨yv', ys, ya, yl, yc, yb, yk, ye⟩], rs', acc ++ [(yv', yq)], _, _, by simp, by rw [HL0.out], Lib.hid HADN.out, HG7, HC7, Lib.hid (by have := HTL.out; have := HNM.out; simp; omega), Lib.hid (fun x hx => HSZ.out x (by simp [hx])), HTOT1⟩
       case measure => show 0 < nm; have := HNM.out; omega
      ·have had := HHAD.out.2.1
       have HADN := Lib.hid had
       have hcz : ¬ cm - 1 = 0 := by omega
       clear had
       go_wp2_with fail
       refine wp_region_held_drew (S := (fun w' => w'.rangeAt yg yo [.int .i64 yv', .bool ys, .slice ya yl yc, .slice yb yk ye])) (by kernel_rfl) ?_ (fun hHeld => ?_)
       ·exact (rangeAt_kept hrA (below_drew wA) (rangeAt_lt hrA (by simp)))
       refine tkL 0 (v := ?_) ?_ hHeld ?_
       rotate_left 1
       ·intro w' hSw
        (try dsimp only at hSw)
        go_simp
        try with_reducible rfl
       try simp only [Act.put, zA, zB, zC, zD, zE, zF]
       refine tkL 1 (v := ?_) ?_ hHeld ?_
       rotate_left 1
       ·intro w' hSw
        (try dsimp only at hSw)
        go_simp
        try with_reducible rfl
       try simp only [Act.put, zA, zB, zC, zD, zE, zF]
       refine tkL 2 (v := ?_) ?_ hHeld ?_
       rotate_left 1
       ·intro w' hSw
        (try dsimp only at hSw)
        go_simp
        try with_reducible rfl
       try simp only [Act.put, zA, zB, zC, zD, zE, zF]
       refine tkL 3 (v := .agg #[.int .i64 yv', .bool ys, .slice ya yl yc, .slice yb yk ye]) ?_ hHeld ?_
       ·intro w' hSw
        exact run_load_op 51 (.tmp 36) (by rfl) yg yo (by rfl) _ _ hSw Tryz.underlying51 rfl (by rw [size_mono]; rfl)
       try simp only [Act.put, zA, zB, zC, zD, zE, zF]
       refine tkL 6 (v := ?_) ?_ hHeld ?_
       rotate_left 1
       ·intro w' hSw
        (try dsimp only at hSw)
        go_simp
        try with_reducible rfl
       try simp only [Act.put, zA, zB, zC, zD, zE, zF]
       refine tkL 7 (v := ?_) ?_ hHeld ?_
       rotate_left 1
       ·intro w' hSw
        (try dsimp only at hSw)
        go_simp
        try with_reducible rfl
       try simp only [Act.put, zA, zB, zC, zD, zE, zF]
       refine rdy [4] ?_
       refine AllReadyH.cons (by rfl) (fun K hK => ?_) AllReadyH.nil
       go_simp
       obtain ⟨w6, hw6⟩ : ∃ w6, w6 = (wA.alloc (.cells #[.int .i64 yv', .bool ys, .slice ya yl yc, .slice yb yk ye] 51)).drew := ⟨_, rfl⟩
       rw [← hw6]
       have hal : Below wA.heap.size wA w6 := by rw [hw6]; exact ((Below.refl _ _).alloc (Nat.le_refl _) _).drew
       have HG6 := Lib.hid (HGA.out.kept hal)
       have HC6 := Lib.hid (HCA.out.kept hal)
       have HNW : Hid (∀ (i : Nat) (u : Value), [Value.int .i64 yv', .bool ys, .slice ya yl yc, .slice yb yk ye][i]? = some u → w6.cell? ((⟨wA.heap.size, 0, none⟩ : Addr).add i) = some u) := Lib.hid fun i u hu => by
        rw [Addr.add_mid, hw6]
        exact rangeAt_new wA [.int .i64 yv', .bool ys, .slice ya yl yc, .slice yb yk ye] _ i u hu
       have hr6 := rangeAt_kept hrA hal (rangeAt_lt hrA (by simp))
       clear hal hw6
       refine hK.out _ _ ?_ (fun hHeld => ?_)
       ·exact hr6
       clear hK K
       try simp only [Act.put, zA, zB, zC, zD, zE, zF]
       refine rdy [5] ?_
       refine AllReadyH.cons (by rfl) (fun K hK => ?_) AllReadyH.nil
       refine step_appM rfl (.tmp 34) (.tmp 38) rfl w.heap.size ts.length n (cellsM ts) (by rfl) HG6.out.row ⟨wA.heap.size, 0, none⟩ 1 1 [.int .i64 yv', .bool ys, .slice ya yl yc, .slice yb yk ye] (by rfl) (by rfl) HNW.out HON.out.1 HON.out.2 HRM.out ?_
       intro w7 hown hgr
       have HG7 := Lib.hid (HG6.out.push (ds := [⟨yv', ys, ya, yl, yc, yb, yk, ye⟩]) (xs := [(yv', yq)]) (fun e => ⟨rfl, one_ok ⟨rfl, HYO.out _ _ HG6.out.r⟩⟩) (by rw [cellsM_one]; exact hown) hgr)
       have HC7 := Lib.hid (HC6.out.row hgr)
       have hr7 := rangeAt_grown hr6 hgr HYG.out
       clear hown hgr
       refine hK.out _ _ ?_ (fun hHeld => ?_)
       ·exact hr7
       clear hK K
       try simp only [Act.put, zA, zB, zC, zD, zE, zF]
       refine tkL 8 (v := ?_) ?_ hHeld ?_
       rotate_left 1
       ·intro w' hSw
        (try dsimp only at hSw)
        go_simp
        try with_reducible rfl
       try simp only [Act.put, zA, zB, zC, zD, zE, zF]
       refine tkL 9 (v := ?_) ?_ hHeld ?_
       rotate_left 1
       ·intro w' hSw
        (try dsimp only at hSw)
        go_simp
        try with_reducible rfl
       try simp only [Act.put, zA, zB, zC, zD, zE, zF]
       refine wpAnyH_done (by kernel_rfl) ?_ _
       clear hHeld
       go_wp2_with fail
       go_roundw
       case rel => exact ⟨more', ts ++ [⟨yv', ys, ya, yl, yc, yb, yk, ye⟩], rs', acc ++ [(yv', yq)], _, _, by simp, by rw [HNM.out, Nat.add_sub_cancel], Lib.hid HADN.out, HG7, HC7, Lib.hid (by have := HTL.out; have := HNM.out; simp; omega), Lib.hid (fun x hx => HSZ.out x (by simp [hx])), HTOT1⟩
       case measure => exact sliceLen_next (by have := HNM.out; omega)
     ·have hld : decide (yv' < v) = false := decide_eq_false hlo
      by_cases heq : yv' = v
      ·have hee : (yv' == v) = true := by simpa using heq
       have HTOT2 : Hid (acc ++ keep (v, xq + yq) ++ merge (ms1.drop (j + 1)) more' = merge ms1 ms2 ∧ (oj || ovQ m (xq + yq) || mergeO m (ms1.drop (j + 1)) more') = (o || mergeO m ms1 ms2)) := Lib.hid (by
        obtain ⟨h1, h2⟩ := HTOT.out
        rw [(merge_meet (m := m) (x := (v, xq)) (y := (yv', yq)) heq).1] at h1
        rw [(merge_meet (m := m) (x := (v, xq)) (y := (yv', yq)) heq).2] at h2
        exact ⟨by rw [List.append_assoc]; exact h1, by rw [Bool.or_assoc]; exact h2⟩)
       have HSZ2 : Hid (∀ x ∈ more', szQ x.2 ≤ 1900) := Lib.hid fun x hx => HSZ.out x (by simp [hx])
       clear hlo heq
       go_wp2_with fail
       go_quiet (fail)
       have hdA : Below wr.heap.size wr (wr.drewN nq) := Below.drewN' (Below.refl _ _) nq
       have HGA := Lib.hid (HG2.out.kept hdA)
       have HCA := Lib.hid (HC2.out.kept hdA)
       have HDA := Lib.hid hdA
       clear hdA
       generalize wr.drewN nq = wA at *
       have hyA : wA.cell? ⟨yg, yo, none⟩ = some (.int .i64 yv') := HYR.out _ _ HGA.out.r 0 _ rfl
       obtain ⟨q0, q1, q2, q3, _⟩ := cellsL4 HCA.out.blk
       clear hr2 hy0
       go_wp2_with fail
       go_quiet (fail)
       have hdB : Below wA.heap.size wA (wA.drewN nq) := Below.drewN' (Below.refl _ _) nq
       have HGB := Lib.hid (HGA.out.kept hdB)
       have HCB := Lib.hid (HCA.out.kept hdB)
       have HDB := Lib.hid hdB
       clear hdB
       generalize wA.drewN nq = wB2 at *
       have hrr : wB2.rangeAt yg (yo + 1) [.bool ys, .slice ya yl yc, .slice yb yk ye] := by
        have h0 := HYR.out _ _ HGB.out.r
        intro i u hu
        rw [show yo + 1 + i = yo + (i + 1) by omega]
        exact h0 (i + 1) u (by simpa using hu)
       have HAD8 := Lib.hid (gotO_add (HGB.out.r.kept (below_drew wB2)).self ((HXO.out _ _ HGB.out.r).kept (below_drew wB2)) ((HYO.out _ _ HGB.out.r).kept (below_drew wB2)) (by have := HZX.out; omega) (by have := HZY.out; (try dsimp only at this); omega))
       have HSQ : Hid (szQ (xq + yq) ≤ 1000000) := Lib.hid (by have := HZX.out; have := HZY.out; (try dsimp only at *); have := szQ_add xq yq; omega)
       obtain ⟨q0, q1, q2, q3, _⟩ := cellsL4 HCB.out.blk
       by_cases hc1 : cm = 1
       ·have had := HHAD.out.2.2 hc1
        have HADN := Lib.hid had
        have HL0 : Hid (rs'.length = 0) := Lib.hid (by have := HNM.out; omega)
        subst hc1
        clear had
        go_wp2_with fail
        refine wp_region_held_drew (S := (fun w' => w'.rangeAt yg (yo + 1) [.bool ys, .slice ya yl yc, .slice yb yk ye])) (by kernel_rfl) ?_ (fun hHeld => ?_)
        ·exact (rangeAt_kept hrr (below_drew wB2) (rangeAt_lt hrr (by simp)))
        refine tkL 0 (v := ?_) ?_ hHeld ?_
        rotate_left 1
        ·intro w' hSw
         (try dsimp only at hSw)
         go_simp
         try with_reducible rfl
        try simp only [Act.put, zA, zB, zC, zD, zE, zF]
        refine tkL 1 (v := ?_) ?_ hHeld ?_
        rotate_left 1
        ·intro w' hSw
         (try dsimp only at hSw)
         go_simp
         try with_reducible rfl
        try simp only [Act.put, zA, zB, zC, zD, zE, zF]
        refine tkL 3 (v := ?_) ?_ hHeld ?_
        rotate_left 1
        ·intro w' hSw
         (try dsimp only at hSw)
         go_simp
         try with_reducible rfl
        try simp only [Act.put, zA, zB, zC, zD, zE, zF]
        refine tkL 4 (v := ?_) ?_ hHeld ?_
        rotate_left 1
        ·intro w' hSw
         (try dsimp only at hSw)
         go_simp
         try with_reducible rfl
        try simp only [Act.put, zA, zB, zC, zD, zE, zF]
        refine tkL 5 (v := ?_) ?_ hHeld ?_
        rotate_left 1
        ·intro w' hSw
         (try dsimp only at hSw)
         go_simp
         try with_reducible rfl
        try simp only [Act.put, zA, zB, zC, zD, zE, zF]
        refine tkL 6 (v := .agg #[.bool ys, .slice ya yl yc, .slice yb yk ye]) ?_ hHeld ?_
        ·intro w' hSw
         exact run_load_op 27 (.tmp 59) (by rfl) yg (yo + 1) (by rfl) _ _ hSw Tryz.underlying27 rfl (by rw [size_ratio]; rfl)
        try simp only [Act.put, zA, zB, zC, zD, zE, zF]
        refine tkL 8 (v := ?_) ?_ hHeld ?_
        rotate_left 1
        ·intro w' hSw
         (try dsimp only at hSw)
         go_simp
         try with_reducible rfl
        try simp only [Act.put, zA, zB, zC, zD, zE, zF]
        refine tkL 9 (v := ?_) ?_ hHeld ?_
        rotate_left 1
        ·intro w' hSw
         (try dsimp only at hSw)
         go_simp
         try with_reducible rfl
        try simp only [Act.put, zA, zB, zC, zD, zE, zF]
        refine rdy [2] ?_
        refine AllReadyH.cons (by rfl) (fun K hK => ?_) AllReadyH.nil
        go_simp
        refine hK.out _ _ ?_ (fun hHeld => ?_)
        ·exact hHeld
        clear hK K
        try simp only [Act.put, zA, zB, zC, zD, zE, zF]
        refine rdy [7] ?_
        refine AllReadyH.cons (by rfl) (fun K hK => ?_) AllReadyH.nil
        go_simp
        refine (HAD8.out).mono ?_
        rintro e w7 ⟨s8, e1, f1, g1, e2, f2, g2, rfl, hr7, hv7⟩
        have hr7 := Lib.hid (BR.trans (HGB.out.r.self.kept (below_drew wB2)) hr7.out)
        have hrr7 := rangeAt_grown hrr hr7.out.g HYB.out
        obtain ⟨nn, hN7, hZ7, hO7⟩ := left_num hv7.out (by have := HSQ.out; omega)
        have hC7 := HCB.out.bench HLT.out hr7.out
        have hM7 := hC7.blk
        obtain ⟨hM8, hg8⟩ := mono_set (t := s8) (y1 := .slice e1 f1 g1) (y2 := .slice e2 f2 g2) hM7
        have hno7 := noLimbM hM7
        obtain ⟨w8, hw8⟩ : ∃ w8, w8 = (((w7.setCell ⟨M, 1, none⟩ (.bool s8)).setCell ⟨M, 2, none⟩ (.slice e1 f1 g1)).setCell ⟨M, 3, none⟩ (.slice e2 f2 g2)) := ⟨_, rfl⟩
        rw [← hw8] at hM8 hg8
        have HS8 := Lib.hid ((HGB.out.bench hr7.out (fun e => (Bool.or_eq_false_iff.1 e).1)).past hg8 hC7.ge hC7.ne hno7)
        have HM8 := Lib.hid hM8
        have HN8 := Lib.hid (hN7.pastL hno7 hg8)
        have HD8 : Hid ((oj || ovQ m (xq + yq)) = false → RM.ok ⟨v, s8, e1, f1, g1, e2, f2, g2⟩ (v, xq + yq) w8) := Lib.hid fun e => ⟨rfl, (hO7 e).pastL hno7 hg8⟩
        have HZE : Hid ((oj || ovQ m (xq + yq)) = false → nn = 0 → mgQ (xq + yq) = 0) := Lib.hid fun e h => by rw [← hZ7 e]; exact h
        have HZN : Hid ((oj || ovQ m (xq + yq)) = false → mgQ (xq + yq) = 0 → nn = 0) := Lib.hid fun e h => by rw [hZ7 e]; exact h
        have HW8 := Lib.hid hw8
        have HG8 := Lib.hid hg8
        obtain ⟨_, _, _, _, p0, p1, p2, p3⟩ := cellsL4 hM7
        refine hK.out _ _ ?_ (fun hHeld => ?_)
        ·exact hrr7
        clear hK K
        try simp only [Act.put, zA, zB, zC, zD, zE, zF]
        refine tkL 10 (v := ?_) ?_ hHeld ?_
        rotate_left 1
        ·intro w' hSw
         (try dsimp only at hSw)
         go_simp
         try with_reducible rfl
        try simp only [Act.put, zA, zB, zC, zD, zE, zF]
        refine rdy [11] ?_
        refine AllReadyH.cons (by rfl) (fun K hK => ?_) AllReadyH.nil
        go_simp
        have hrr8 := rangeAt_grown hrr7 HG8.out (by have := hC7.ge; have := HYW.out; omega)
        rw [← HW8.out]
        refine hK.out _ _ ?_ (fun hHeld => ?_)
        ·exact hrr8
        clear hK K
        try simp only [Act.put, zA, zB, zC, zD, zE, zF]
        refine tkL 12 (v := ?_) ?_ hHeld ?_
        rotate_left 1
        ·intro w' hSw
         (try dsimp only at hSw)
         go_simp
         try with_reducible rfl
        try simp only [Act.put, zA, zB, zC, zD, zE, zF]
        refine wpAnyH_done (by kernel_rfl) ?_ _
        clear hHeld
        clear hr7 hv7 hN7 hZ7 hO7 hC7 hM7 hM8 hg8 hno7 hw8 hrr7 hrr8 p0 p1 p2 p3 HAD8 q0 q1 q2 q3 hrr
        obtain ⟨q0, q1, q2, q3, _⟩ := cellsL4 HM8.out
        have HSG := Lib.hid (SignE (s := s8) (a2 := e2) (l2 := f2) (c2 := g2) HN8.out)
        go_wp2_with fail
        refine HSG.out.mono ?_
        rintro e w9 ⟨x9, rfl, hx0, hb9⟩
        have HS9 := Lib.hid (HS8.out.kept hb9.out)
        have HM9 := Lib.hid (stayL HM8.out hb9.out)
        have HD9 := Lib.hid (fun e => (HD8.out e).kept hb9.out)
        clear HSG HS8 HM8 HD8 hb9 HW8
        by_cases hz : nn = 0
        ·have HFIN := Lib.hid (HS9.out.said (ms' := acc ++ keep (v, (xq + yq))) fun e => by
          rw [keep_none (HZE.out e hz), List.append_nil])
         rw [decide_eq_true hz] at hx0
         clear hz
         go_wp2_with fail
         go_roundw
         case rel => exact ⟨j + 1, ts, rs', acc ++ keep (v, (xq + yq)), more', _, _, _, by omega, by go_num, rfl, by rw [HL0.out], Lib.hid HADN.out, HFIN, Lib.hid (by have := HTL.out; have := HNM.out; (try simp only [List.length_append, List.length_cons, List.length_nil] at *); omega), HSZ2, HTOT2⟩
         case measure => exact measure_next hiw hlt
        ·rw [decide_eq_false hz] at hx0
         have hr9 := range4 HM9.out
         have hal := (Below.refl w9.heap.size w9).alloc (Nat.le_refl _) (.cells #[.int .i64 v, .bool s8, .slice e1 f1 g1, .slice e2 f2 g2] 51)
         have HS10 := Lib.hid (HS9.out.kept hal)
         have HD10 := Lib.hid (fun e => (HD9.out e).kept hal)
         have HNW : Hid (∀ (i : Nat) (u : Value), [Value.int .i64 v, .bool s8, .slice e1 f1 g1, .slice e2 f2 g2][i]? = some u → (w9.alloc (.cells #[.int .i64 v, .bool s8, .slice e1 f1 g1, .slice e2 f2 g2] 51)).cell? ((⟨w9.heap.size, 0, none⟩ : Addr).add i) = some u) := Lib.hid fun i u hu => by
          rw [Addr.add_mid]
          exact rangeAt_new w9 [.int .i64 v, .bool s8, .slice e1 f1 g1, .slice e2 f2 g2] _ i u hu
         have HOW := Lib.hid HS10.out.row
         have HPU := Lib.hid (fun w11 (h1' : OwnM w11 w.heap.size n (ts.length + 1) (cellsM ts ++ [.int .i64 v, .bool s8, .slice e1 f1 g1, .slice e2 f2 g2])) h2' => (HS10.out.push (ds := [⟨v, s8, e1, f1, g1, e2, f2, g2⟩]) (xs := [(v, (xq + yq))]) (fun e => ⟨rfl, one_ok (HD10.out e)⟩) (by rw [cellsM_one]; exact h1') h2').said (ms' := acc ++ keep (v, (xq + yq))) (fun e => by rw [keep_some (fun e2 => hz (HZN.out e e2))]))
         have HRM : Hid (ts.length + 1 ≤ n) := Lib.hid (by have := HTL.out; omega)
         have HON : Hid ((∀ u ∈ [Value.int .i64 v, .bool s8, .slice e1 f1 g1, .slice e2 f2 g2], u.oneCell' = true) ∧ (∀ u ∈ [Value.int .i64 v, .bool s8, .slice e1 f1 g1, .slice e2 f2 g2], GoodM u)) := Lib.hid ⟨by
          intro u hu
          simp only [List.mem_cons, List.not_mem_nil, or_false] at hu
          rcases hu with rfl | rfl | rfl | rfl <;> rfl, goodM_cells ⟨v, s8, e1, f1, g1, e2, f2, g2⟩⟩
         clear hz hal HM9 HD9 HS9
         go_wp2_with (first | (refine wpList_val (.agg #[.int .i64 v, .bool s8, .slice e1 f1 g1, .slice e2 f2 g2]) (run_load_op 51 (.tmp 9) (by with_reducible rfl) M 0 (by rfl) _ _ hr9 Tryz.underlying51 rfl (by rw [size_mono]; rfl)) (by rfl) ?_) | (at_builtin; refine wpList_appM rfl (.tmp 74) (.tmp 76) rfl w.heap.size ts.length n (cellsM ts) (by rfl) HOW.out ⟨w9.heap.size, 0, none⟩ 1 1 [.int .i64 v, .bool s8, .slice e1 f1 g1, .slice e2 f2 g2] (by rfl) (by rfl) HNW.out HON.out.1 HON.out.2 HRM.out ?_; intro w11 hown hgr; have HS12 := Lib.hid (HPU.out w11 hown hgr); clear hown hgr))
         go_roundw
         case rel => exact ⟨j + 1, ts ++ [⟨v, s8, e1, f1, g1, e2, f2, g2⟩], rs', acc ++ keep (v, (xq + yq)), more', _, _, _, by omega, by go_num, by simp, by rw [HL0.out], Lib.hid HADN.out, HS12, Lib.hid (by have := HTL.out; have := HNM.out; (try simp only [List.length_append, List.length_cons, List.length_nil] at *); omega), HSZ2, HTOT2⟩
         case measure => exact measure_next hiw hlt
       ·have had := HHAD.out.2.1
        have HADN := Lib.hid had
        have hcz : ¬ cm - 1 = 0 := by omega
        clear had
        go_wp2_with fail
        refine wp_region_held_drew (S := (fun w' => w'.rangeAt yg (yo + 1) [.bool ys, .slice ya yl yc, .slice yb yk ye])) (by kernel_rfl) ?_ (fun hHeld => ?_)
        ·exact (rangeAt_kept hrr (below_drew wB2) (rangeAt_lt hrr (by simp)))
        refine tkL 0 (v := ?_) ?_ hHeld ?_
        rotate_left 1
        ·intro w' hSw
         (try dsimp only at hSw)
         go_simp
         try with_reducible rfl
        try simp only [Act.put, zA, zB, zC, zD, zE, zF]
        refine tkL 1 (v := ?_) ?_ hHeld ?_
        rotate_left 1
        ·intro w' hSw
         (try dsimp only at hSw)
         go_simp
         try with_reducible rfl
        try simp only [Act.put, zA, zB, zC, zD, zE, zF]
        refine tkL 3 (v := ?_) ?_ hHeld ?_
        rotate_left 1
        ·intro w' hSw
         (try dsimp only at hSw)
         go_simp
         try with_reducible rfl
        try simp only [Act.put, zA, zB, zC, zD, zE, zF]
        refine tkL 4 (v := ?_) ?_ hHeld ?_
        rotate_left 1
        ·intro w' hSw
         (try dsimp only at hSw)
         go_simp
         try with_reducible rfl
        try simp only [Act.put, zA, zB, zC, zD, zE, zF]
        refine tkL 5 (v := ?_) ?_ hHeld ?_
        rotate_left 1
        ·intro w' hSw
         (try dsimp only at hSw)
         go_simp
         try with_reducible rfl
        try simp only [Act.put, zA, zB, zC, zD, zE, zF]
        refine tkL 6 (v := .agg #[.bool ys, .slice ya yl yc, .slice yb yk ye]) ?_ hHeld ?_
        ·intro w' hSw
         exact run_load_op 27 (.tmp 59) (by rfl) yg (yo + 1) (by rfl) _ _ hSw Tryz.underlying27 rfl (by rw [size_ratio]; rfl)
        try simp only [Act.put, zA, zB, zC, zD, zE, zF]
        refine tkL 8 (v := ?_) ?_ hHeld ?_
        rotate_left 1
        ·intro w' hSw
         (try dsimp only at hSw)
         go_simp
         try with_reducible rfl
        try simp only [Act.put, zA, zB, zC, zD, zE, zF]
        refine tkL 9 (v := ?_) ?_ hHeld ?_
        rotate_left 1
        ·intro w' hSw
         (try dsimp only at hSw)
         go_simp
         try with_reducible rfl
        try simp only [Act.put, zA, zB, zC, zD, zE, zF]
        refine rdy [2] ?_
        refine AllReadyH.cons (by rfl) (fun K hK => ?_) AllReadyH.nil
        go_simp
        refine hK.out _ _ ?_ (fun hHeld => ?_)
        ·exact hHeld
        clear hK K
        try simp only [Act.put, zA, zB, zC, zD, zE, zF]
        refine rdy [7] ?_
        refine AllReadyH.cons (by rfl) (fun K hK => ?_) AllReadyH.nil
        go_simp
        refine (HAD8.out).mono ?_
        rintro e w7 ⟨s8, e1, f1, g1, e2, f2, g2, rfl, hr7, hv7⟩
        have hr7 := Lib.hid (BR.trans (HGB.out.r.self.kept (below_drew wB2)) hr7.out)
        have hrr7 := rangeAt_grown hrr hr7.out.g HYB.out
        obtain ⟨nn, hN7, hZ7, hO7⟩ := left_num hv7.out (by have := HSQ.out; omega)
        have hC7 := HCB.out.bench HLT.out hr7.out
        have hM7 := hC7.blk
        obtain ⟨hM8, hg8⟩ := mono_set (t := s8) (y1 := .slice e1 f1 g1) (y2 := .slice e2 f2 g2) hM7
        have hno7 := noLimbM hM7
        obtain ⟨w8, hw8⟩ : ∃ w8, w8 = (((w7.setCell ⟨M, 1, none⟩ (.bool s8)).setCell ⟨M, 2, none⟩ (.slice e1 f1 g1)).setCell ⟨M, 3, none⟩ (.slice e2 f2 g2)) := ⟨_, rfl⟩
        rw [← hw8] at hM8 hg8
        have HS8 := Lib.hid ((HGB.out.bench hr7.out (fun e => (Bool.or_eq_false_iff.1 e).1)).past hg8 hC7.ge hC7.ne hno7)
        have HM8 := Lib.hid hM8
        have HN8 := Lib.hid (hN7.pastL hno7 hg8)
        have HD8 : Hid ((oj || ovQ m (xq + yq)) = false → RM.ok ⟨v, s8, e1, f1, g1, e2, f2, g2⟩ (v, xq + yq) w8) := Lib.hid fun e => ⟨rfl, (hO7 e).pastL hno7 hg8⟩
        have HZE : Hid ((oj || ovQ m (xq + yq)) = false → nn = 0 → mgQ (xq + yq) = 0) := Lib.hid fun e h => by rw [← hZ7 e]; exact h
        have HZN : Hid ((oj || ovQ m (xq + yq)) = false → mgQ (xq + yq) = 0 → nn = 0) := Lib.hid fun e h => by rw [hZ7 e]; exact h
        have HW8 := Lib.hid hw8
        have HG8 := Lib.hid hg8
        obtain ⟨_, _, _, _, p0, p1, p2, p3⟩ := cellsL4 hM7
        refine hK.out _ _ ?_ (fun hHeld => ?_)
        ·exact hrr7
        clear hK K
        try simp only [Act.put, zA, zB, zC, zD, zE, zF]
        refine tkL 10 (v := ?_) ?_ hHeld ?_
        rotate_left 1
        ·intro w' hSw
         (try dsimp only at hSw)
         go_simp
         try with_reducible rfl
        try simp only [Act.put, zA, zB, zC, zD, zE, zF]
        refine rdy [11] ?_
        refine AllReadyH.cons (by rfl) (fun K hK => ?_) AllReadyH.nil
        go_simp
        have hrr8 := rangeAt_grown hrr7 HG8.out (by have := hC7.ge; have := HYW.out; omega)
        rw [← HW8.out]
        refine hK.out _ _ ?_ (fun hHeld => ?_)
        ·exact hrr8
        clear hK K
        try simp only [Act.put, zA, zB, zC, zD, zE, zF]
        refine tkL 12 (v := ?_) ?_ hHeld ?_
        rotate_left 1
        ·intro w' hSw
         (try dsimp only at hSw)
         go_simp
         try with_reducible rfl
        try simp only [Act.put, zA, zB, zC, zD, zE, zF]
        refine wpAnyH_done (by kernel_rfl) ?_ _
        clear hHeld
        clear hr7 hv7 hN7 hZ7 hO7 hC7 hM7 hM8 hg8 hno7 hw8 hrr7 hrr8 p0 p1 p2 p3 HAD8 q0 q1 q2 q3 hrr
        obtain ⟨q0, q1, q2, q3, _⟩ := cellsL4 HM8.out
        have HSG := Lib.hid (SignE (s := s8) (a2 := e2) (l2 := f2) (c2 := g2) HN8.out)
        go_wp2_with fail
        refine HSG.out.mono ?_
        rintro e w9 ⟨x9, rfl, hx0, hb9⟩
        have HS9 := Lib.hid (HS8.out.kept hb9.out)
        have HM9 := Lib.hid (stayL HM8.out hb9.out)
        have HD9 := Lib.hid (fun e => (HD8.out e).kept hb9.out)
        clear HSG HS8 HM8 HD8 hb9 HW8
        by_cases hz : nn = 0
        ·have HFIN := Lib.hid (HS9.out.said (ms' := acc ++ keep (v, (xq + yq))) fun e => by
          rw [keep_none (HZE.out e hz), List.append_nil])
         rw [decide_eq_true hz] at hx0
         clear hz
         go_wp2_with fail
         go_roundw
         case rel => exact ⟨j + 1, ts, rs', acc ++ keep (v, (xq + yq)), more', _, _, _, by omega, by go_num, rfl, by rw [HNM.out, Nat.add_sub_cancel], Lib.hid HADN.out, HFIN, Lib.hid (by have := HTL.out; have := HNM.out; (try simp only [List.length_append, List.length_cons, List.length_nil] at *); omega), HSZ2, HTOT2⟩
         case measure => exact measure_next hiw hlt
        ·rw [decide_eq_false hz] at hx0
         have hr9 := range4 HM9.out
         have hal := (Below.refl w9.heap.size w9).alloc (Nat.le_refl _) (.cells #[.int .i64 v, .bool s8, .slice e1 f1 g1, .slice e2 f2 g2] 51)
         have HS10 := Lib.hid (HS9.out.kept hal)
         have HD10 := Lib.hid (fun e => (HD9.out e).kept hal)
         have HNW : Hid (∀ (i : Nat) (u : Value), [Value.int .i64 v, .bool s8, .slice e1 f1 g1, .slice e2 f2 g2][i]? = some u → (w9.alloc (.cells #[.int .i64 v, .bool s8, .slice e1 f1 g1, .slice e2 f2 g2] 51)).cell? ((⟨w9.heap.size, 0, none⟩ : Addr).add i) = some u) := Lib.hid fun i u hu => by
          rw [Addr.add_mid]
          exact rangeAt_new w9 [.int .i64 v, .bool s8, .slice e1 f1 g1, .slice e2 f2 g2] _ i u hu
         have HOW := Lib.hid HS10.out.row
         have HPU := Lib.hid (fun w11 (h1' : OwnM w11 w.heap.size n (ts.length + 1) (cellsM ts ++ [.int .i64 v, .bool s8, .slice e1 f1 g1, .slice e2 f2 g2])) h2' => (HS10.out.push (ds := [⟨v, s8, e1, f1, g1, e2, f2, g2⟩]) (xs := [(v, (xq + yq))]) (fun e => ⟨rfl, one_ok (HD10.out e)⟩) (by rw [cellsM_one]; exact h1') h2').said (ms' := acc ++ keep (v, (xq + yq))) (fun e => by rw [keep_some (fun e2 => hz (HZN.out e e2))]))
         have HRM : Hid (ts.length + 1 ≤ n) := Lib.hid (by have := HTL.out; omega)
         have HON : Hid ((∀ u ∈ [Value.int .i64 v, .bool s8, .slice e1 f1 g1, .slice e2 f2 g2], u.oneCell' = true) ∧ (∀ u ∈ [Value.int .i64 v, .bool s8, .slice e1 f1 g1, .slice e2 f2 g2], GoodM u)) := Lib.hid ⟨by
          intro u hu
          simp only [List.mem_cons, List.not_mem_nil, or_false] at hu
          rcases hu with rfl | rfl | rfl | rfl <;> rfl, goodM_cells ⟨v, s8, e1, f1, g1, e2, f2, g2⟩⟩
         clear hz hal HM9 HD9 HS9
         go_wp2_with (first | (refine wpList_val (.agg #[.int .i64 v, .bool s8, .slice e1 f1 g1, .slice e2 f2 g2]) (run_load_op 51 (.tmp 9) (by with_reducible rfl) M 0 (by rfl) _ _ hr9 Tryz.underlying51 rfl (by rw [size_mono]; rfl)) (by rfl) ?_) | (at_builtin; refine wpList_appM rfl (.tmp 74) (.tmp 76) rfl w.heap.size ts.length n (cellsM ts) (by rfl) HOW.out ⟨w9.heap.size, 0, none⟩ 1 1 [.int .i64 v, .bool s8, .slice e1 f1 g1, .slice e2 f2 g2] (by rfl) (by rfl) HNW.out HON.out.1 HON.out.2 HRM.out ?_; intro w11 hown hgr; have HS12 := Lib.hid (HPU.out w11 hown hgr); clear hown hgr))
         go_roundw
         case rel => exact ⟨j + 1, ts ++ [⟨v, s8, e1, f1, g1, e2, f2, g2⟩], rs', acc ++ keep (v, (xq + yq)), more', _, _, _, by omega, by go_num, by simp, by rw [HNM.out, Nat.add_sub_cancel], Lib.hid HADN.out, HS12, Lib.hid (by have := HTL.out; have := HNM.out; (try simp only [List.length_append, List.length_cons, List.length_nil] at *); omega), HSZ2, HTOT2⟩
         case measure => exact measure_next hiw hlt
      ·have hee : (yv' == v) = false := by simpa using heq
       have HTOT2 : Hid (acc ++ keep (v, xq) ++ merge (ms1.drop (j + 1)) ((yv', yq) :: more') = merge ms1 ms2 ∧ (oj || ovQ m xq || mergeO m (ms1.drop (j + 1)) ((yv', yq) :: more')) = (o || mergeO m ms1 ms2)) := Lib.hid (by
        obtain ⟨h1, h2⟩ := HTOT.out
        rw [(merge_above (m := m) (x := (v, xq)) (y := (yv', yq)) (by dsimp only; omega)).1] at h1
        rw [(merge_above (m := m) (x := (v, xq)) (y := (yv', yq)) (by dsimp only; omega)).2] at h2
        exact ⟨by rw [List.append_assoc]; exact h1, by rw [Bool.or_assoc]; exact h2⟩)
       have HSZ2 := HSZ
       clear hlo heq
       go_wp2_with fail
       go_quiet (fail)
       have hdA : Below wr.heap.size wr (wr.drewN nq) := Below.drewN' (Below.refl _ _) nq
       have HGA := Lib.hid (HG2.out.kept hdA)
       have HCA := Lib.hid (HC2.out.kept hdA)
       have HDA := Lib.hid hdA
       clear hdA
       generalize wr.drewN nq = wA at *
       have hyA : wA.cell? ⟨yg, yo, none⟩ = some (.int .i64 yv') := HYR.out _ _ HGA.out.r 0 _ rfl
       obtain ⟨q0, q1, q2, q3, _⟩ := cellsL4 HCA.out.blk
       clear hr2 hy0
       go_wp2_with fail
       go_quiet (fail)
       have hdB : Below wA.heap.size wA (wA.drewN nq) := Below.drewN' (Below.refl _ _) nq
       have HGB := Lib.hid (HGA.out.kept hdB)
       have HCB := Lib.hid (HCA.out.kept hdB)
       have HDB := Lib.hid hdB
       clear hdB
       generalize wA.drewN nq = wB2 at *
       obtain ⟨q0, q1, q2, q3, _⟩ := cellsL4 HCB.out.blk
       have HAN := Lib.hid (answer_any HGB.out.r.bench HGB.out.r.tab (HXO.out _ _ HGB.out.r) (by have := HZX.out; omega))
       have HSQ : Hid (szQ xq ≤ 1000000) := Lib.hid (by have := HZX.out; omega)
       go_wp2_with fail
       refine HAN.out.mono ?_
       rintro e w7 ⟨s8, e1, f1, g1, e2, f2, g2, rfl, hr7, hv7⟩
       obtain ⟨nn, hN7, hZ7, hO7⟩ := ans_num hv7.out (by have := HSQ.out; omega)
       have hC7 := HCB.out.bench HLT.out hr7.out
       have hM7 := hC7.blk
       obtain ⟨hM8, hg8⟩ := mono_set (t := s8) (y1 := .slice e1 f1 g1) (y2 := .slice e2 f2 g2) hM7
       have hno7 := noLimbM hM7
       obtain ⟨w8, hw8⟩ : ∃ w8, w8 = (((w7.setCell ⟨M, 1, none⟩ (.bool s8)).setCell ⟨M, 2, none⟩ (.slice e1 f1 g1)).setCell ⟨M, 3, none⟩ (.slice e2 f2 g2)) := ⟨_, rfl⟩
       rw [← hw8] at hM8 hg8
       have HS8 := Lib.hid ((HGB.out.bench hr7.out (fun e => (Bool.or_eq_false_iff.1 e).1)).past hg8 hC7.ge hC7.ne hno7)
       have HM8 := Lib.hid hM8
       have HN8 := Lib.hid (hN7.pastL hno7 hg8)
       have HD8 : Hid ((oj || ovQ m xq) = false → RM.ok ⟨v, s8, e1, f1, g1, e2, f2, g2⟩ (v, xq) w8) := Lib.hid fun e => ⟨rfl, (hO7 e).pastL hno7 hg8⟩
       have HZE : Hid ((oj || ovQ m xq) = false → nn = 0 → mgQ (xq) = 0) := Lib.hid fun e h => by rw [← hZ7 e]; exact h
       have HZN : Hid ((oj || ovQ m xq) = false → mgQ (xq) = 0 → nn = 0) := Lib.hid fun e h => by rw [hZ7 e]; exact h
       have HW8 := Lib.hid hw8
       have HG8 := Lib.hid hg8
       obtain ⟨_, _, _, _, p0, p1, p2, p3⟩ := cellsL4 hM7
       clear hr7 hv7 hN7 hZ7 hO7 hC7 hM7 hM8 hg8 hno7 hw8 HAN q0 q1 q2 q3
       have HSG := Lib.hid (SignE (s := s8) (a2 := e2) (l2 := f2) (c2 := g2) HN8.out)
       go_wp2_with fail
       rw [← HW8.out]
       refine HSG.out.mono ?_
       rintro e w9 ⟨x9, rfl, hx0, hb9⟩
       have HS9 := Lib.hid (HS8.out.kept hb9.out)
       have HM9 := Lib.hid (stayL HM8.out hb9.out)
       have HD9 := Lib.hid (fun e => (HD8.out e).kept hb9.out)
       clear HSG HS8 HM8 HD8 hb9 HW8
       by_cases hz : nn = 0
       ·have HFIN := Lib.hid (HS9.out.said (ms' := acc ++ keep (v, xq)) fun e => by
         rw [keep_none (HZE.out e hz), List.append_nil])
        rw [decide_eq_true hz] at hx0
        clear hz
        go_wp2_with fail
        go_roundw
        case rel => exact ⟨j + 1, ts, (RM.mk yv' ys ya yl yc yb yk ye :: rs'), acc ++ keep (v, xq), ((yv', yq) :: more'), _, _, _, by omega, by go_num, rfl, by rw [HNM0.out], Lib.hid HAD.out, HFIN, Lib.hid (by have := HTL.out; have := HNM.out; (try simp only [List.length_append, List.length_cons, List.length_nil] at *); omega), HSZ2, HTOT2⟩
        case measure => exact measure_next hiw hlt
       ·rw [decide_eq_false hz] at hx0
        have hr9 := range4 HM9.out
        have hal := (Below.refl w9.heap.size w9).alloc (Nat.le_refl _) (.cells #[.int .i64 v, .bool s8, .slice e1 f1 g1, .slice e2 f2 g2] 51)
        have HS10 := Lib.hid (HS9.out.kept hal)
        have HD10 := Lib.hid (fun e => (HD9.out e).kept hal)
        have HNW : Hid (∀ (i : Nat) (u : Value), [Value.int .i64 v, .bool s8, .slice e1 f1 g1, .slice e2 f2 g2][i]? = some u → (w9.alloc (.cells #[.int .i64 v, .bool s8, .slice e1 f1 g1, .slice e2 f2 g2] 51)).cell? ((⟨w9.heap.size, 0, none⟩ : Addr).add i) = some u) := Lib.hid fun i u hu => by
         rw [Addr.add_mid]
         exact rangeAt_new w9 [.int .i64 v, .bool s8, .slice e1 f1 g1, .slice e2 f2 g2] _ i u hu
        have HOW := Lib.hid HS10.out.row
        have HPU := Lib.hid (fun w11 (h1' : OwnM w11 w.heap.size n (ts.length + 1) (cellsM ts ++ [.int .i64 v, .bool s8, .slice e1 f1 g1, .slice e2 f2 g2])) h2' => (HS10.out.push (ds := [⟨v, s8, e1, f1, g1, e2, f2, g2⟩]) (xs := [(v, xq)]) (fun e => ⟨rfl, one_ok (HD10.out e)⟩) (by rw [cellsM_one]; exact h1') h2').said (ms' := acc ++ keep (v, xq)) (fun e => by rw [keep_some (fun e2 => hz (HZN.out e e2))]))
        have HRM : Hid (ts.length + 1 ≤ n) := Lib.hid (by have := HTL.out; omega)
        have HON : Hid ((∀ u ∈ [Value.int .i64 v, .bool s8, .slice e1 f1 g1, .slice e2 f2 g2], u.oneCell' = true) ∧ (∀ u ∈ [Value.int .i64 v, .bool s8, .slice e1 f1 g1, .slice e2 f2 g2], GoodM u)) := Lib.hid ⟨by
         intro u hu
         simp only [List.mem_cons, List.not_mem_nil, or_false] at hu
         rcases hu with rfl | rfl | rfl | rfl <;> rfl, goodM_cells ⟨v, s8, e1, f1, g1, e2, f2, g2⟩⟩
        clear hz hal HM9 HD9 HS9
        go_wp2_with (first | (refine wpList_val (.agg #[.int .i64 v, .bool s8, .slice e1 f1 g1, .slice e2 f2 g2]) (run_load_op 51 (.tmp 9) (by with_reducible rfl) M 0 (by rfl) _ _ hr9 Tryz.underlying51 rfl (by rw [size_mono]; rfl)) (by rfl) ?_) | (at_builtin; refine wpList_appM rfl (.tmp 74) (.tmp 76) rfl w.heap.size ts.length n (cellsM ts) (by rfl) HOW.out ⟨w9.heap.size, 0, none⟩ 1 1 [.int .i64 v, .bool s8, .slice e1 f1 g1, .slice e2 f2 g2] (by rfl) (by rfl) HNW.out HON.out.1 HON.out.2 HRM.out ?_; intro w11 hown hgr; have HS12 := Lib.hid (HPU.out w11 hown hgr); clear hown hgr))
        go_roundw
        case rel => exact ⟨j + 1, ts ++ [⟨v, s8, e1, f1, g1, e2, f2, g2⟩], (RM.mk yv' ys ya yl yc yb yk ye :: rs'), acc ++ keep (v, xq), ((yv', yq) :: more'), _, _, _, by omega, by go_num, by simp, by rw [HNM0.out], Lib.hid HAD.out, HS12, Lib.hid (by have := HTL.out; have := HNM.out; (try simp only [List.length_append, List.length_cons, List.length_nil] at *); omega), HSZ2, HTOT2⟩
        case measure => exact measure_next hiw hlt
  ·obtain rfl : j = n1 := by omega
   have htk : ms1.drop j = [] := List.drop_eq_nil_of_le (by have := H1.out.1.len; have := HN.out; omega)
   rw [htk] at HTOT0
   have HT1 : Hid (acc0 ++ more0 = merge ms1 ms2) := Lib.hid HTOT0.out.1
   have HT2 : Hid (oj = (o || mergeO m ms1 ms2)) := Lib.hid (by have := HTOT0.out.2; simp only [mergeO, Bool.or_false] at this; exact this)
   have HMR := Lib.hid (HAD0.out.bench HB0.out.1 HG0.out.r)
   have HRM : Hid (ts0.length + rsm0.length ≤ n) := Lib.hid (by have := HTL0.out; omega)
   have HPU := Lib.hid (fun w11 (h1' : OwnM w11 w.heap.size n (ts0.length + rsm0.length) (cellsM ts0 ++ cellsM rsm0)) h2' => (HG0.out.push (ds := rsm0) (xs := more0) (fun e => ⟨HMR.out.ms.len, HMR.out.ms.vals⟩) h1' h2').said (fun _ => HT1.out))
   have hnc : n ≤ 1000000 := by have := HN.out; have := HNN.out; omega
   have HNC := Lib.hid hnc
   rcases am0 with _ | ax
   ·obtain ⟨hz1, hz2⟩ := HAD0.out.nil rfl
    subst hz1 hz2
    have HE := Lib.hid (HG0.out.said (ms' := merge ms1 ms2) (fun _ => by
     rw [← HT1.out]
     have : more0 = [] := List.eq_nil_of_length_eq_zero (by have := HMR.out.ms.len; simpa using this.symm)
     rw [this, List.append_nil]))
    have HOW := Lib.hid HG0.out.row
    go_wp2_with (at_builtin; refine wpList_app_nilM rfl (.tmp 79) (.tmp 80) rfl w.heap.size ts0.length n (cellsM ts0) (by rfl) HOW.out (by rfl) ?_)
    go_ret
    rw [← HT2.out]
    exact HE.out.got HNC.out
   ·have HNW := Lib.hid (HMR.out.ms.addr rfl)
    have HOW := Lib.hid HG0.out.row
    go_wp2_with (at_builtin; refine wpList_appM rfl (.tmp 79) (.tmp 80) rfl w.heap.size ts0.length n (cellsM ts0) (by rfl) HOW.out ax rsm0.length cm0 (cellsM rsm0) (by rfl) (cellsM_len rsm0) HNW.out (oneM_cells rsm0) (goodM_all rsm0) HRM.out ?_; intro w11 hown hgr; have HS12 := Lib.hid (HPU.out w11 hown hgr); clear hown hgr)
    have HE := Lib.hid (HS12.out.got HNC.out)
    rw [List.length_append] at HE
    go_ret
    rw [← HT2.out]
    exact HE.out
end Go.Proofs.YtpjeecahaeaajaaGreatDoor

set_option linter.unusedVariables false
set_option linter.unusedSimpArgs false
namespace Go.Proofs.YtpjeecahaeaajaaGreatDoor
open Go.RowKit Rep Ln
theorem scale_sz {k : Rat} {ms : List Mo} {n1 n2 : Nat} (hk : szQ k ≤ n1) (h : ∀ x ∈ ms, szQ x.2 ≤ n2) : ∀ x ∈ scale k ms, szQ x.2 ≤ n1 + n2 + 3 := by
 intro x hx
 obtain ⟨y, hy, h1⟩ := List.mem_flatMap.1 hx
 unfold keep at h1
 split at h1
 ·simp at h1
 ·simp at h1
  rw [h1]
  have := szQ_mul k y.2
  have := h y hy
  dsimp only
  omega
theorem scale_len (k : Rat) (ms : List Mo) : (scale k ms).length ≤ ms.length := by
 induction ms with
 | nil => simp [scale]
 | cons x ms ih =>
  have : scale k (x :: ms) = keep (x.1, k * x.2) ++ scale k ms := rfl
  rw [this, List.length_append, List.length_cons]
  have : (keep (x.1, k * x.2)).length ≤ 1 := by unfold keep; split <;> simp
  omega
theorem merge_len : ∀ (l r : List Mo), (merge l r).length ≤ l.length + r.length
 | [], r => by simp [merge]
 | x :: l, r => by
  have h1 := merge_len l (step1 x r).2
  have h2 : (step1 x r).1.length + (step1 x r).2.length ≤ r.length + 1 := by
   unfold step1
   have h3 : (meet x (r.dropWhile (below x))).1.length + (meet x (r.dropWhile (below x))).2.length ≤ (r.dropWhile (below x)).length + 1 := by
    have hk : ∀ y : Mo, (keep y).length ≤ 1 := fun y => by unfold keep; split <;> simp
    rcases r.dropWhile (below x) with _ | ⟨n, r'⟩
    ·have := hk x; simp [meet]; omega
    ·unfold meet
     dsimp only
     split
     ·have := hk (x.1, x.2 + n.2); simp; omega
     ·have := hk x; simp; omega
   have h4 := congrArg List.length (take_drop (below x) r)
   simp only [List.length_append] at h4 ⊢
   omega
  simp only [merge, List.length_append, List.length_cons]
  omega
def NoI64 (w : World) (g : Nat) : Prop := ∀ off i, w.cell? ⟨g, off, none⟩ = some (.int .i64 i) → False
theorem poly_noI {W : World} {r : Nat} {s : Bool} {z1 z2 z3 : Option Addr} {m1 k1 m2 k2 m3 k3 : Nat} {t : TypeId} (h : W.heap[r]? = some (.cells #[.bool s, .slice z1 m1 k1, .slice z2 m2 k2, .slice z3 m3 k3] t (0, 0))) : NoI64 W r ∧ NoLimb W r := by
 refine ⟨fun off i e => ?_, noLimb4 h (.inr (.inl ⟨_, rfl⟩)) (.inr (.inr ⟨_, _, _, rfl⟩)) (.inr (.inr ⟨_, _, _, rfl⟩)) (.inr (.inr ⟨_, _, _, rfl⟩))⟩
 rcases off with _ | _ | _ | _ | off <;> simp [World.cell?, h] at e
theorem rat_noI {W : World} {r : Nat} {s : Bool} {z1 z2 : Option Addr} {m1 k1 m2 k2 : Nat} {t : TypeId} (h : W.heap[r]? = some (.cells #[.bool s, .slice z1 m1 k1, .slice z2 m2 k2] t (0, 0))) : NoI64 W r ∧ NoLimb W r := by
 refine ⟨fun off i e => ?_, fun off i e => ?_⟩ <;> rcases off with _ | _ | _ | off <;> simp [World.cell?, h] at e
section
variable {W W' : World} {a : Option Addr} {rs : List RM} {ms : List Mo} {R : Nat}
theorem MsAt.past (h : MsAt W a rs ms) (h1 : NoI64 W R ∧ NoLimb W R) (hg : W.grownBy W' (some R)) : MsAt W' a rs ms := by
 refine ⟨?_, h.len, fun i d m h2 h3 => (h.vals i d m h2 h3).past h1.2 hg⟩
 rcases h.mem with e | ⟨g, off, e, hr⟩
 ·exact .inl e
 ·refine .inr ⟨g, off, e, fun i d hd => rangeAt_grown (hr i d hd) hg ?_⟩
  rintro rfl
  exact h1.1 _ _ (hr i d hd 0 _ rfl)
theorem PolyAt.past {c : Rat} {v : RawR} (h : PolyAt c ms v a rs W) (h1 : NoI64 W R ∧ NoLimb W R) (hg : W.grownBy W' (some R)) : PolyAt c ms v a rs W' := ⟨h.num.pastL h1.2 hg, h.ms.past h1 hg⟩
end
def zPoly : Array Value := #[.bool false, .slice none 0 0, .slice none 0 0, .slice none 0 0]
theorem zero_poly (w : World) : (zeroValue 30).run Tryz.prog w = .ok (.agg zPoly) w := by
 unfold zPoly
 go_simp
theorem one_poly (s : Bool) (z1 z2 z3 : Option Addr) (m1 k1 m2 k2 m3 k3 : Nat) : (#[Value.bool s, .slice z1 m1 k1, .slice z2 m2 k2, .slice z3 m3 k3]).all (·.oneCell') = true := by simp [Value.oneCell']
theorem fin_poly2 {w W : World} {b m R : Nat} {c : Rat} {ms : List Mo} {s : Bool} {z1 z2 a : Option Addr} {m1 k1 m2 k2 cp : Nat} {rs : List RM} (hR : BR b m false w W) (hT : Tab w) (hb : b < w.heap.size) (hRw : w.heap.size ≤ R)
    (h3 : W.heap[R]? = some (.cells #[.bool false, .slice none 0 0, .slice none 0 0, .slice none 0 0] 30 (0, 0))) (hp : PolyAt c ms (s, (z1, m1, k1), (z2, m2, k2)) a rs W) (hl : rs.length ≤ cp) (hc : cp ≤ 1000000) (hn : a = none → rs = [] ∧ cp = 0) :
    GotP b m false w c ms (.returned (.agg #[.bool s, .slice z1 m1 k1, .slice z2 m2 k2, .slice a rs.length cp])) (putL4 W R (.bool s) (.slice z1 m1 k1) (.slice z2 m2 k2) (.slice a rs.length cp)) :=
 ⟨_, _, _, _, _, _, _, a, cp, rs, rfl, Lib.hid (hR.setL hT hb hRw _ _ _ _), Lib.hid (hp.past (poly_noI h3) (putL4_grown _ _ _ _ _ _)), hl, hc, hn⟩
theorem fin_zero2 {w W : World} {b m R : Nat} {c : Rat} {ms : List Mo} (hR : BR b m true w W) (hT : Tab w) (hb : b < w.heap.size) (hRw : w.heap.size ≤ R) :
    GotP b m true w c ms (.returned (.agg #[.bool false, .slice none 0 0, .slice none 0 0, .slice none 0 0])) (putL4 W R (.bool false) (.slice none 0 0) (.slice none 0 0) (.slice none 0 0)) :=
 ⟨_, _, _, _, _, _, _, none, 0, [], rfl, Lib.hid (hR.setL hT hb hRw _ _ _ _), Lib.hid (PolyAt.zero _), Nat.le_refl _, by omega, fun _ => ⟨rfl, rfl⟩⟩
def addO (m : Nat) (o : Bool) (c1 : Rat) (ms1 : List Mo) (k c2 : Rat) (ms2 : List Mo) : Bool := (o || ovQ m (k * c2) || scaleO m k ms2) || ovQ m (c1 + k * c2) || mergeO m ms1 (scale k ms2)
end Go.Proofs.YtpjeecahaeaajaaGreatDoor
