/- By program out of: LnMerge, LnPo, LnAdd. -/
import Derived.Test.YtpjeecahaeaajaaGreatDoorMlkimak
set_option linter.unusedVariables false
set_option linter.unusedSimpArgs false
namespace Go.Proofs.YtpjeecahaeaajaaGreatDoor
open Go.RowKit Rep Ln
theorem one_ok {d : RM} {x : Mo} {W : World} (h : d.ok x W) : ∀ (k : Nat) (d' : RM) (x' : Mo), [d][k]? = some d' → [x][k]? = some x' → d'.ok x' W := by
 intro k d' x' h1 h2
 rcases k with _ | k
 ·simp at h1 h2
  subst h1 h2
  exact h
 ·simp at h1
set_option maxRecDepth 100000 in
set_option maxHeartbeats 16000000 in
theorem merge_any {w : World} {b m : Nat} {o : Bool} {ms1 ms2 : List Mo} {a1 a2 : Option Addr} {cp1 cp2 : Nat} {rs1 rs2 : List RM} (hB : Bench w b m o) (hT : Tab w)
    (h1 : MsAt w a1 rs1 ms1) (h2 : MoreAt w a2 cp2 rs2 ms2) (z1 : ∀ x ∈ ms1, szQ x.2 ≤ 1900) (z2 : ∀ x ∈ ms2, szQ x.2 ≤ 1900) (hn1 : rs1.length ≤ 1000) (hn2 : rs2.length ≤ 1000) :
    Calls Tryz.prog 35 #[.pointer (some ⟨b, 0, none⟩), .slice a1 rs1.length cp1, .slice a2 rs2.length cp2] w (GotM b m (o || mergeO m ms1 ms2) w (merge ms1 ms2)) := by
 have hmk := fun w => run_makeM (rs1.length + rs2.length) (by omega) w
 have HB0 := Lib.hid (And.intro hB hT)
 have H1 := Lib.hid (And.intro h1 z1)
 have H2 := Lib.hid (And.intro h2 z2)
 have hst := MgAt.start (n := rs1.length + rs2.length) hB hT
 have hcl : ((rs1.length : Int) + (rs2.length : Int)) = ((rs1.length + rs2.length : Nat) : Int) := by omega
 have hw1 : wrap64 ((rs1.length : Int) + (rs2.length : Int)) = ((rs1.length + rs2.length : Nat) : Int) := by rw [hcl]; exact IntWalk.wrap64_in _ (by omega)
 have HST := Lib.hid hst
 have HNN := Lib.hid (And.intro hn1 hn2)
 obtain ⟨n1, hn1'⟩ : ∃ n, rs1.length = n := ⟨_, rfl⟩
 obtain ⟨n2, hn2'⟩ : ∃ n, rs2.length = n := ⟨_, rfl⟩
 obtain ⟨n, hnn⟩ : ∃ n, rs1.length + rs2.length = n := ⟨_, rfl⟩
 have HN := Lib.hid (And.intro hn1' (And.intro hn2' hnn))
 rw [hnn] at hmk hst HST hw1
 rw [hn1'] at hw1 ⊢
 rw [hn2'] at hw1 ⊢
 clear hB hT h1 h2 z1 z2 hst hcl hn1 hn2 hn1' hn2' hnn
 go_enter Tryz.func35, Tryz.ntmps35
 go_wp2_with fail
 go_loopw [18, 7, 2] (fun (iv sv mv : Value) (wr : World) => ∃ (j : Nat) (ts rsm : List RM) (acc more : List Mo) (am : Option Addr) (cm : Nat) (oj : Bool), j ≤ n1 ∧ iv = .int .i64 (j : Int) ∧ sv = .slice (some ⟨w.heap.size, 0, none⟩) ts.length n ∧ mv = .slice am rsm.length cm ∧ Hid (MoreAt w am cm rsm more) ∧ Hid (MgAt w b m oj w.heap.size n ts acc wr) ∧ Hid (ts.length + rsm.length + (n1 - j) ≤ n) ∧ Hid (∀ x ∈ more, szQ x.2 ≤ 1900) ∧ Hid (acc ++ merge (ms1.drop j) more = merge ms1 ms2 ∧ (oj || mergeO m (ms1.drop j) more) = (o || mergeO m ms1 ms2))) (fun iv _ _ _ => n1 - (intOf iv).toNat)
 case atStart => exact ⟨0, [], rs2, [], ms2, a2, cp2, o, Nat.zero_le _, rfl, rfl, by rw [← HN.out.2.1], Lib.hid H2.out.1, HST, Lib.hid (by have := HN.out; simp; omega), Lib.hid H2.out.2, Lib.hid ⟨rfl, rfl⟩⟩
 case round =>
  obtain ⟨j, ts0, rsm0, acc0, more0, am0, cm0, oj, hjn, rfl, rfl, rfl, HAD0, HG0, HTL0, HSZ0, HTOT0⟩ := hrel
  by_cases hlt : j < n1
  ·obtain ⟨d, x, g, off, hd, hx, rfl, hok, hr⟩ := (H1.out.1.bench HB0.out.1 HG0.out.r).get (k := j) (by have := H1.out.1.len; have := HN.out; omega)
   have hzx := H1.out.2 x (List.mem_of_getElem? hx)
   obtain ⟨v, s, z1, m1, k1, z2, m2, k2⟩ := d
   obtain ⟨xv, xq⟩ := x
   obtain ⟨hv, hq⟩ := hok
   dsimp only [RM.raw] at hv hq hzx
   subst hv
   have hdr : ms1.drop j = (v, xq) :: ms1.drop (j + 1) := drop_at hx
   rw [hdr] at HTOT0
   have hal := (Below.refl wr.heap.size wr).alloc (Nat.le_refl _) (.cells #[.int .i64 v, .bool s, .slice z1 m1 k1, .slice z2 m2 k2] 51)
   have HG6 := Lib.hid (HG0.out.kept hal)
   have HCU : Hid (CurAt w wr.heap.size w.heap.size (wr.alloc (.cells #[.int .i64 v, .bool s, .slice z1 m1 k1, .slice z2 m2 k2] 51)) v s z1 m1 k1 z2 m2 k2) := Lib.hid ⟨heap_alloc_new wr _, HG0.out.r.size, by have := HG0.out.row.lt; omega⟩
   have HXO : Hid (∀ p W, BR b m p w W → VQ xq (s, (z1, m1, k1), (z2, m2, k2)) W) := Lib.hid fun p W h => h.vq HB0.out.1 (H1.out.1.vals j _ _ hd hx).q
   have HZX := Lib.hid hzx
   have HLT : Hid (b < w.heap.size) := Lib.hid HG0.out.lt0
   have hji : (j : Int) < (n1 : Int) := by omega
   have hiw : wrap64 ((j : Int) + 1) = (j : Int) + 1 := IntWalk.wrap64_in _ (by have := HN.out; have := HNN.out; omega)
   have hr4 : wr.rangeAt g (off + j * 4) [.int .i64 v, .bool s, .slice z1 m1 k1, .slice z2 m2 k2] := hr
   clear hd hx hq hzx hal hr hdr hw1 hmk HST
   go_wp2_with (first | (refine wpList_val (.agg #[.int .i64 v, .bool s, .slice z1 m1 k1, .slice z2 m2 k2]) (run_load_op 51 (.tmp 20) (by with_reducible rfl) g (off + j * 4) (by rfl) _ _ hr4 Tryz.underlying51 rfl (by rw [size_mono]; rfl)) (by rfl) ?_) | (with_reducible refine wpList_alloc_agg rfl 51 rfl zMono zero_mono ?_) | (refine wpList_store_new rfl 51 (.tmp 9) (.tmp 21) (by with_reducible rfl) wr zMono #[.int .i64 v, .bool s, .slice z1 m1 k1, .slice z2 m2 k2] (by rfl) (by rfl) (by rfl) (by rw [size_mono]; rfl) (by rfl) (one_mono ⟨v, s, z1, m1, k1, z2, m2, k2⟩) ?_))
   simp only [Act.put, List.setIfInBounds_toArray, List.set_cons_zero, List.set_cons_succ]
   generalize wr.alloc (.cells #[.int .i64 v, .bool s, .slice z1 m1 k1, .slice z2 m2 k2] 51) = wB at *
   generalize wr.heap.size = M at *
   go_loopw [7, 2] (fun (sv mv : Value) (wr : World) => ∃ (more : List Mo) (ts rsm : List RM) (acc : List Mo) (am : Option Addr) (cm : Nat), sv = .slice (some ⟨w.heap.size, 0, none⟩) ts.length n ∧ mv = .slice am rsm.length cm ∧ Hid (MoreAt w am cm rsm more) ∧ Hid (MgAt w b m oj w.heap.size n ts acc wr) ∧ Hid (CurAt w M w.heap.size wr v s z1 m1 k1 z2 m2 k2) ∧ Hid (ts.length + rsm.length + (n1 - j) ≤ n) ∧ Hid (∀ x ∈ more, szQ x.2 ≤ 1900) ∧ Hid (acc ++ merge ((v, xq) :: ms1.drop (j + 1)) more = merge ms1 ms2 ∧ (oj || mergeO m ((v, xq) :: ms1.drop (j + 1)) more) = (o || mergeO m ms1 ms2))) (fun _ mv _ => sliceLen mv)
   case atStart => exact ⟨more0, ts0, rsm0, acc0, am0, cm0, rfl, rfl, HAD0, HG6, HCU, HTL0, HSZ0, HTOT0⟩
   case round =>
    obtain ⟨more, ts, rsm, acc, am, cm, rfl, rfl, HAD, HG2, HC2, HTL, HSZ, HTOT⟩ := hrel
    clear HAD0 HG0 HTL0 HSZ0 HTOT0 HG6 HCU hr4
    obtain ⟨q0, q1, q2, q3, _⟩ := cellsL4 HC2.out.blk
    rcases more with _ | ⟨y, more'⟩
    ·have hrz : rsm = [] := List.eq_nil_of_length_eq_zero (by have := HAD.out.ms.len; simpa using this)
     subst hrz
     have HNM : Hid (([] : List RM).length = 0) := Lib.hid rfl
     have HTOT2 : Hid (acc ++ keep (v, xq) ++ merge (ms1.drop (j + 1)) [] = merge ms1 ms2 ∧ (oj || ovQ m xq || mergeO m (ms1.drop (j + 1)) []) = (o || mergeO m ms1 ms2)) := Lib.hid (by
      obtain ⟨h1, h2⟩ := HTOT.out
      rw [(merge_none (m := m)).1] at h1
      rw [(merge_none (m := m)).2] at h2
      exact ⟨by rw [List.append_assoc]; exact h1, by rw [Bool.or_assoc]; exact h2⟩)
     have HSZ2 := HSZ
     go_wp2_with fail
     go_quiet (fail)
     have hdA : Below wr.heap.size wr (wr.drewN nq) := Below.drewN' (Below.refl _ _) nq
     have HGA := Lib.hid (HG2.out.kept hdA)
     have HCA := Lib.hid (HC2.out.kept hdA)
     have HDA := Lib.hid hdA
     clear hdA
     generalize wr.drewN nq = wA at *
     go_wp2_with fail
     go_quiet (fail)
     have hdB : Below wA.heap.size wA (wA.drewN nq) := Below.drewN' (Below.refl _ _) nq
     have HGB := Lib.hid (HGA.out.kept hdB)
     have HCB := Lib.hid (HCA.out.kept hdB)
     have HDB := Lib.hid hdB
     clear hdB
     generalize wA.drewN nq = wB2 at *
     obtain ⟨q0, q1, q2, q3, _⟩ := cellsL4 HCB.out.blk
     have HAN := Lib.hid (answer_any HGB.out.r.bench HGB.out.r.tab (HXO.out _ _ HGB.out.r) (by have := HZX.out; omega))
     have HSQ : Hid (szQ xq ≤ 1000000) := Lib.hid (by have := HZX.out; omega)
     go_wp2_with fail
     refine HAN.out.mono ?_
     rintro e w7 ⟨s8, e1, f1, g1, e2, f2, g2, rfl, hr7, hv7⟩
     obtain ⟨nn, hN7, hZ7, hO7⟩ := ans_num hv7.out (by have := HSQ.out; omega)
     have hC7 := HCB.out.bench HLT.out hr7.out
     have hM7 := hC7.blk
     obtain ⟨hM8, hg8⟩ := mono_set (t := s8) (y1 := .slice e1 f1 g1) (y2 := .slice e2 f2 g2) hM7
     have hno7 := noLimbM hM7
     obtain ⟨w8, hw8⟩ : ∃ w8, w8 = (((w7.setCell ⟨M, 1, none⟩ (.bool s8)).setCell ⟨M, 2, none⟩ (.slice e1 f1 g1)).setCell ⟨M, 3, none⟩ (.slice e2 f2 g2)) := ⟨_, rfl⟩
     rw [← hw8] at hM8 hg8
     have HS8 := Lib.hid ((HGB.out.bench hr7.out (fun e => (Bool.or_eq_false_iff.1 e).1)).past hg8 hC7.ge hC7.ne hno7)
     have HM8 := Lib.hid hM8
     have HN8 := Lib.hid (hN7.pastL hno7 hg8)
     have HD8 : Hid ((oj || ovQ m xq) = false → RM.ok ⟨v, s8, e1, f1, g1, e2, f2, g2⟩ (v, xq) w8) := Lib.hid fun e => ⟨rfl, (hO7 e).pastL hno7 hg8⟩
     have HZE : Hid ((oj || ovQ m xq) = false → nn = 0 → mgQ (xq) = 0) := Lib.hid fun e h => by rw [← hZ7 e]; exact h
     have HZN : Hid ((oj || ovQ m xq) = false → mgQ (xq) = 0 → nn = 0) := Lib.hid fun e h => by rw [hZ7 e]; exact h
     have HW8 := Lib.hid hw8
     have HG8 := Lib.hid hg8
     obtain ⟨_, _, _, _, p0, p1, p2, p3⟩ := cellsL4 hM7
     clear hr7 hv7 hN7 hZ7 hO7 hC7 hM7 hM8 hg8 hno7 hw8 HAN q0 q1 q2 q3
     have HSG := Lib.hid (SignE (s := s8) (a2 := e2) (l2 := f2) (c2 := g2) HN8.out)
     go_wp2_with fail
     rw [← HW8.out]
     refine HSG.out.mono ?_
     rintro e w9 ⟨x9, rfl, hx0, hb9⟩
     have HS9 := Lib.hid (HS8.out.kept hb9.out)
     have HM9 := Lib.hid (stayL HM8.out hb9.out)
     have HD9 := Lib.hid (fun e => (HD8.out e).kept hb9.out)
     clear HSG HS8 HM8 HD8 hb9 HW8
     by_cases hz : nn = 0
     ·have HFIN := Lib.hid (HS9.out.said (ms' := acc ++ keep (v, xq)) fun e => by
       rw [keep_none (HZE.out e hz), List.append_nil])
      rw [decide_eq_true hz] at hx0
      clear hz
      go_wp2_with fail
      go_roundw
      case rel => exact ⟨j + 1, ts, [], acc ++ keep (v, xq), [], _, _, _, by omega, by go_num, rfl, by simp [HNM.out], Lib.hid HAD.out, HFIN, Lib.hid (by have := HTL.out; have := HNM.out; (try simp only [List.length_append, List.length_cons, List.length_nil] at *); omega), HSZ2, HTOT2⟩
      case measure => exact measure_next hiw hlt
     ·rw [decide_eq_false hz] at hx0
      have hr9 := range4 HM9.out
      have hal := (Below.refl w9.heap.size w9).alloc (Nat.le_refl _) (.cells #[.int .i64 v, .bool s8, .slice e1 f1 g1, .slice e2 f2 g2] 51)
      have HS10 := Lib.hid (HS9.out.kept hal)
      have HD10 := Lib.hid (fun e => (HD9.out e).kept hal)
      have HNW : Hid (∀ (i : Nat) (u : Value), [Value.int .i64 v, .bool s8, .slice e1 f1 g1, .slice e2 f2 g2][i]? = some u → (w9.alloc (.cells #[.int .i64 v, .bool s8, .slice e1 f1 g1, .slice e2 f2 g2] 51)).cell? ((⟨w9.heap.size, 0, none⟩ : Addr).add i) = some u) := Lib.hid fun i u hu => by
       rw [Addr.add_mid]
       exact rangeAt_new w9 [.int .i64 v, .bool s8, .slice e1 f1 g1, .slice e2 f2 g2] _ i u hu
      have HOW := Lib.hid HS10.out.row
      have HPU := Lib.hid (fun w11 (h1' : OwnM w11 w.heap.size n (ts.length + 1) (cellsM ts ++ [.int .i64 v, .bool s8, .slice e1 f1 g1, .slice e2 f2 g2])) h2' => (HS10.out.push (ds := [⟨v, s8, e1, f1, g1, e2, f2, g2⟩]) (xs := [(v, xq)]) (fun e => ⟨rfl, one_ok (HD10.out e)⟩) (by rw [cellsM_one]; exact h1') h2').said (ms' := acc ++ keep (v, xq)) (fun e => by rw [keep_some (fun e2 => hz (HZN.out e e2))]))
      have HRM : Hid (ts.length + 1 ≤ n) := Lib.hid (by have := HTL.out; omega)
      have HON : Hid ((∀ u ∈ [Value.int .i64 v, .bool s8, .slice e1 f1 g1, .slice e2 f2 g2], u.oneCell' = true) ∧ (∀ u ∈ [Value.int .i64 v, .bool s8, .slice e1 f1 g1, .slice e2 f2 g2], GoodM u)) := Lib.hid ⟨by
       intro u hu
       simp only [List.mem_cons, List.not_mem_nil, or_false] at hu
       rcases hu with rfl | rfl | rfl | rfl <;> rfl, goodM_cells ⟨v, s8, e1, f1, g1, e2, f2, g2⟩⟩
      clear hz hal HM9 HD9 HS9
      go_wp2_with (first | (refine wpList_val (.agg #[.int .i64 v, .bool s8, .slice e1 f1 g1, .slice e2 f2 g2]) (run_load_op 51 (.tmp 9) (by with_reducible rfl) M 0 (by rfl) _ _ hr9 Tryz.underlying51 rfl (by rw [size_mono]; rfl)) (by rfl) ?_) | (at_builtin; refine wpList_appM rfl (.tmp 74) (.tmp 76) rfl w.heap.size ts.length n (cellsM ts) (by rfl) HOW.out ⟨w9.heap.size, 0, none⟩ 1 1 [.int .i64 v, .bool s8, .slice e1 f1 g1, .slice e2 f2 g2] (by rfl) (by rfl) HNW.out HON.out.1 HON.out.2 HRM.out ?_; intro w11 hown hgr; have HS12 := Lib.hid (HPU.out w11 hown hgr); clear hown hgr))
      go_roundw
      case rel => exact ⟨j + 1, ts ++ [⟨v, s8, e1, f1, g1, e2, f2, g2⟩], [], acc ++ keep (v, xq), [], _, _, _, by omega, by go_num, by simp, by simp [HNM.out], Lib.hid HAD.out, HS12, Lib.hid (by have := HTL.out; have := HNM.out; (try simp only [List.length_append, List.length_cons, List.length_nil] at *); omega), HSZ2, HTOT2⟩
      case measure => exact measure_next hiw hlt
    ·obtain ⟨yv, yq⟩ := y
     obtain ⟨⟨yv', ys, ya, yl, yc, yb, yk, ye⟩, rs', yg, yo, rfl, rfl, hyok, hyr, hc1, had, had1⟩ := HAD.out.one
     obtain ⟨hyv, hyq⟩ := hyok
     dsimp only [RM.raw] at hyv hyq
     subst hyv
     have HYO : Hid (∀ p W, BR b m p w W → VQ yq (ys, (ya, yl, yc), (yb, yk, ye)) W) := Lib.hid fun p W h => h.vq HB0.out.1 hyq
     have HYB : Hid (yg ≠ b) := Lib.hid (bench_apart (d := ⟨yv', ys, ya, yl, yc, yb, yk, ye⟩) hyr HB0.out.1)
     have HYW : Hid (yg < w.heap.size) := Lib.hid (rangeAt_lt hyr (by simp [RM.cells]))
     have HYG : Hid (yg ≠ w.heap.size) := Lib.hid (by have := HYW.out; omega)
     have HYR : Hid (∀ p W, BR b m p w W → W.rangeAt yg yo [.int .i64 yv', .bool ys, .slice ya yl yc, .slice yb yk ye]) := Lib.hid fun p W h => rangeAt_grown hyr h.g HYB.out
     have HZY := Lib.hid (HSZ.out (yv', yq) (by simp))
     have HHAD := Lib.hid (And.intro hc1 (And.intro had had1))
     obtain ⟨nm, hnm⟩ : ∃ nm, nm = (RM.mk yv' ys ya yl yc yb yk ye :: rs').length := ⟨_, rfl⟩
     have HNM0 := Lib.hid hnm
     have HNM : Hid (nm = rs'.length + 1) := Lib.hid (by rw [hnm]; simp)
     have hnp : 0 < nm := by rw [hnm]; simp
     have hnI : (0 : Int) < (nm : Int) := by omega
     have hnd : decide ((0 : Int) < (nm : Int)) = true := decide_eq_true hnI
     have hn1 : 1 ≤ nm := hnp
     have hn1I : (1 : Int) ≤ (nm : Int) := by omega
     have hcm : nm ≤ cm := by have := HAD.out.le; rw [hnm]; exact this
     have hcmI : (1 : Int) ≤ (cm : Int) := by omega
     rw [← hnm] at HTL ⊢
     have hr2 := HYR.out _ _ HG2.out.r
     have hy0 : wr.cell? ⟨yg, yo, none⟩ = some (.int .i64 yv') := hr2 0 _ rfl
     clear hyr hyq hc1 had had1 hnm
     by_cases hlo : yv' < v
     ·have hld : decide (yv' < v) = true := decide_eq_true hlo
      have HTOT1 : Hid (acc ++ [(yv', yq)] ++ merge ((v, xq) :: ms1.drop (j + 1)) more' = merge ms1 ms2 ∧ (oj || mergeO m ((v, xq) :: ms1.drop (j + 1)) more') = (o || mergeO m ms1 ms2)) := Lib.hid (by
       obtain ⟨h1, h2⟩ := HTOT.out
       rw [(merge_lower (m := m) (x := (v, xq)) (y := (yv', yq)) hlo).1] at h1
       rw [(merge_lower (m := m) (x := (v, xq)) (y := (yv', yq)) hlo).2] at h2
       exact ⟨by rw [List.append_assoc]; exact h1, h2⟩)
      have HON : Hid ((∀ u ∈ [Value.int .i64 yv', .bool ys, .slice ya yl yc, .slice yb yk ye], u.oneCell' = true) ∧ (∀ u ∈ [Value.int .i64 yv', .bool ys, .slice ya yl yc, .slice yb yk ye], GoodM u)) := Lib.hid ⟨by
       intro u hu
       simp only [List.mem_cons, List.not_mem_nil, or_false] at hu
       rcases hu with rfl | rfl | rfl | rfl <;> rfl, goodM_cells ⟨yv', ys, ya, yl, yc, yb, yk, ye⟩⟩
      have HRM : Hid (ts.length + 1 ≤ n) := Lib.hid (by have := HTL.out; omega)
      clear hlo
      go_wp2_with fail
      go_quiet (fail)
      have hdA : Below wr.heap.size wr (wr.drewN nq) := Below.drewN' (Below.refl _ _) nq
      have HGA := Lib.hid (HG2.out.kept hdA)
      have HCA := Lib.hid (HC2.out.kept hdA)
      have HDA := Lib.hid hdA
      clear hdA
      generalize wr.drewN nq = wA at *
      have hrA := HYR.out _ _ HGA.out.r
      clear hr2 hy0
      by_cases hc1 : cm = 1
      ·have had := HHAD.out.2.2 hc1
       have HADN := Lib.hid had
       have HL0 : Hid (rs'.length = 0) := Lib.hid (by have := HNM.out; omega)
       subst hc1
       clear had
       go_wp2_with fail
       refine wp_region_held_drew (S := (fun w' => w'.rangeAt yg yo [.int .i64 yv', .bool ys, .slice ya yl yc, .slice yb yk ye])) (by kernel_rfl) ?_ (fun hHeld => ?_)
       ·exact (rangeAt_kept hrA (below_drew wA) (rangeAt_lt hrA (by simp)))
       refine tkV 0 hHeld ?_
       try simp only [Act.put, zA, zB, zC, zD, zE, zF]
       refine tkV 1 hHeld ?_
       try simp only [Act.put, zA, zB, zC, zD, zE, zF]
       refine tkV 2 hHeld ?_
       try simp only [Act.put, zA, zB, zC, zD, zE, zF]
       refine tkL 3 (v := .agg #[.int .i64 yv', .bool ys, .slice ya yl yc, .slice yb yk ye]) ?_ hHeld ?_
       ·intro w' hSw
        exact run_load_op 51 (.tmp 36) (by rfl) yg yo (by rfl) _ _ hSw Tryz.underlying51 rfl (by rw [size_mono]; rfl)
       try simp only [Act.put, zA, zB, zC, zD, zE, zF]
       refine tkV 6 hHeld ?_
       try simp only [Act.put, zA, zB, zC, zD, zE, zF]
       refine tkV 7 hHeld ?_
       try simp only [Act.put, zA, zB, zC, zD, zE, zF]
       refine rdy [4] ?_
       refine AllReadyH.cons (by rfl) (fun K hK => ?_) AllReadyH.nil
       go_simp
       obtain ⟨w6, hw6⟩ : ∃ w6, w6 = (wA.alloc (.cells #[.int .i64 yv', .bool ys, .slice ya yl yc, .slice yb yk ye] 51)).drew := ⟨_, rfl⟩
       rw [← hw6]
       have hal : Below wA.heap.size wA w6 := by rw [hw6]; exact ((Below.refl _ _).alloc (Nat.le_refl _) _).drew
       have HG6 := Lib.hid (HGA.out.kept hal)
       have HC6 := Lib.hid (HCA.out.kept hal)
       have HNW : Hid (∀ (i : Nat) (u : Value), [Value.int .i64 yv', .bool ys, .slice ya yl yc, .slice yb yk ye][i]? = some u → w6.cell? ((⟨wA.heap.size, 0, none⟩ : Addr).add i) = some u) := Lib.hid fun i u hu => by
        rw [Addr.add_mid, hw6]
        exact rangeAt_new wA [.int .i64 yv', .bool ys, .slice ya yl yc, .slice yb yk ye] _ i u hu
       have hr6 := rangeAt_kept hrA hal (rangeAt_lt hrA (by simp))
       clear hal hw6
       refine hK.out _ _ ?_ (fun hHeld => ?_)
       ·exact hr6
       clear hK K
       try simp only [Act.put, zA, zB, zC, zD, zE, zF]
       refine rdy [5] ?_
       refine AllReadyH.cons (by rfl) (fun K hK => ?_) AllReadyH.nil
       refine step_appM rfl (.tmp 34) (.tmp 38) rfl w.heap.size ts.length n (cellsM ts) (by rfl) HG6.out.row ⟨wA.heap.size, 0, none⟩ 1 1 [.int .i64 yv', .bool ys, .slice ya yl yc, .slice yb yk ye] (by rfl) (by rfl) HNW.out HON.out.1 HON.out.2 HRM.out ?_
       intro w7 hown hgr
       have HG7 := Lib.hid (HG6.out.push (ds := [⟨yv', ys, ya, yl, yc, yb, yk, ye⟩]) (xs := [(yv', yq)]) (fun e => ⟨rfl, one_ok ⟨rfl, HYO.out _ _ HG6.out.r⟩⟩) (by rw [cellsM_one]; exact hown) hgr)
       have HC7 := Lib.hid (HC6.out.row hgr)
       have hr7 := rangeAt_grown hr6 hgr HYG.out
       clear hown hgr
       refine hK.out _ _ ?_ (fun hHeld => ?_)
       ·exact hr7
       clear hK K
       try simp only [Act.put, zA, zB, zC, zD, zE, zF]
       refine tkV 8 hHeld ?_
       try simp only [Act.put, zA, zB, zC, zD, zE, zF]
       refine tkV 9 hHeld ?_
       try simp only [Act.put, zA, zB, zC, zD, zE, zF]
       refine wpAnyH_done (by kernel_rfl) ?_ _
       clear hHeld
       go_wp2_with fail
       go_roundw
       case rel => exact ⟨more', ts ++ [⟨yv', ys, ya, yl, yc, yb, yk, ye⟩], rs', acc ++ [(yv', yq)], _, _, by simp, by rw [HL0.out], Lib.hid HADN.out, HG7, HC7, Lib.hid (by have := HTL.out; have := HNM.out; simp; omega), Lib.hid (fun x hx => HSZ.out x (by simp [hx])), HTOT1⟩
       case measure => show 0 < nm; have := HNM.out; omega
      ·have had := HHAD.out.2.1
       have HADN := Lib.hid had
       have hcz : ¬ cm - 1 = 0 := by omega
       clear had
       go_wp2_with fail
       refine wp_region_held_drew (S := (fun w' => w'.rangeAt yg yo [.int .i64 yv', .bool ys, .slice ya yl yc, .slice yb yk ye])) (by kernel_rfl) ?_ (fun hHeld => ?_)
       ·exact (rangeAt_kept hrA (below_drew wA) (rangeAt_lt hrA (by simp)))
       refine tkV 0 hHeld ?_
       try simp only [Act.put, zA, zB, zC, zD, zE, zF]
       refine tkV 1 hHeld ?_
       try simp only [Act.put, zA, zB, zC, zD, zE, zF]
       refine tkV 2 hHeld ?_
       try simp only [Act.put, zA, zB, zC, zD, zE, zF]
       refine tkL 3 (v := .agg #[.int .i64 yv', .bool ys, .slice ya yl yc, .slice yb yk ye]) ?_ hHeld ?_
       ·intro w' hSw
        exact run_load_op 51 (.tmp 36) (by rfl) yg yo (by rfl) _ _ hSw Tryz.underlying51 rfl (by rw [size_mono]; rfl)
       try simp only [Act.put, zA, zB, zC, zD, zE, zF]
       refine tkV 6 hHeld ?_
       try simp only [Act.put, zA, zB, zC, zD, zE, zF]
       refine tkV 7 hHeld ?_
       try simp only [Act.put, zA, zB, zC, zD, zE, zF]
       refine rdy [4] ?_
       refine AllReadyH.cons (by rfl) (fun K hK => ?_) AllReadyH.nil
       go_simp
       obtain ⟨w6, hw6⟩ : ∃ w6, w6 = (wA.alloc (.cells #[.int .i64 yv', .bool ys, .slice ya yl yc, .slice yb yk ye] 51)).drew := ⟨_, rfl⟩
       rw [← hw6]
       have hal : Below wA.heap.size wA w6 := by rw [hw6]; exact ((Below.refl _ _).alloc (Nat.le_refl _) _).drew
       have HG6 := Lib.hid (HGA.out.kept hal)
       have HC6 := Lib.hid (HCA.out.kept hal)
       have HNW : Hid (∀ (i : Nat) (u : Value), [Value.int .i64 yv', .bool ys, .slice ya yl yc, .slice yb yk ye][i]? = some u → w6.cell? ((⟨wA.heap.size, 0, none⟩ : Addr).add i) = some u) := Lib.hid fun i u hu => by
        rw [Addr.add_mid, hw6]
        exact rangeAt_new wA [.int .i64 yv', .bool ys, .slice ya yl yc, .slice yb yk ye] _ i u hu
       have hr6 := rangeAt_kept hrA hal (rangeAt_lt hrA (by simp))
       clear hal hw6
       refine hK.out _ _ ?_ (fun hHeld => ?_)
       ·exact hr6
       clear hK K
       try simp only [Act.put, zA, zB, zC, zD, zE, zF]
       refine rdy [5] ?_
       refine AllReadyH.cons (by rfl) (fun K hK => ?_) AllReadyH.nil
       refine step_appM rfl (.tmp 34) (.tmp 38) rfl w.heap.size ts.length n (cellsM ts) (by rfl) HG6.out.row ⟨wA.heap.size, 0, none⟩ 1 1 [.int .i64 yv', .bool ys, .slice ya yl yc, .slice yb yk ye] (by rfl) (by rfl) HNW.out HON.out.1 HON.out.2 HRM.out ?_
       intro w7 hown hgr
       have HG7 := Lib.hid (HG6.out.push (ds := [⟨yv', ys, ya, yl, yc, yb, yk, ye⟩]) (xs := [(yv', yq)]) (fun e => ⟨rfl, one_ok ⟨rfl, HYO.out _ _ HG6.out.r⟩⟩) (by rw [cellsM_one]; exact hown) hgr)
       have HC7 := Lib.hid (HC6.out.row hgr)
       have hr7 := rangeAt_grown hr6 hgr HYG.out
       clear hown hgr
       refine hK.out _ _ ?_ (fun hHeld => ?_)
       ·exact hr7
       clear hK K
       try simp only [Act.put, zA, zB, zC, zD, zE, zF]
       refine tkV 8 hHeld ?_
       try simp only [Act.put, zA, zB, zC, zD, zE, zF]
       refine tkV 9 hHeld ?_
       try simp only [Act.put, zA, zB, zC, zD, zE, zF]
       refine wpAnyH_done (by kernel_rfl) ?_ _
       clear hHeld
       go_wp2_with fail
       go_roundw
       case rel => exact ⟨more', ts ++ [⟨yv', ys, ya, yl, yc, yb, yk, ye⟩], rs', acc ++ [(yv', yq)], _, _, by simp, by rw [HNM.out, Nat.add_sub_cancel], Lib.hid HADN.out, HG7, HC7, Lib.hid (by have := HTL.out; have := HNM.out; simp; omega), Lib.hid (fun x hx => HSZ.out x (by simp [hx])), HTOT1⟩
       case measure => exact sliceLen_next (by have := HNM.out; omega)
     ·have hld : decide (yv' < v) = false := decide_eq_false hlo
      by_cases heq : yv' = v
      ·have hee : (yv' == v) = true := by simpa using heq
       have HTOT2 : Hid (acc ++ keep (v, xq + yq) ++ merge (ms1.drop (j + 1)) more' = merge ms1 ms2 ∧ (oj || ovQ m (xq + yq) || mergeO m (ms1.drop (j + 1)) more') = (o || mergeO m ms1 ms2)) := Lib.hid (by
        obtain ⟨h1, h2⟩ := HTOT.out
        rw [(merge_meet (m := m) (x := (v, xq)) (y := (yv', yq)) heq).1] at h1
        rw [(merge_meet (m := m) (x := (v, xq)) (y := (yv', yq)) heq).2] at h2
        exact ⟨by rw [List.append_assoc]; exact h1, by rw [Bool.or_assoc]; exact h2⟩)
       have HSZ2 : Hid (∀ x ∈ more', szQ x.2 ≤ 1900) := Lib.hid fun x hx => HSZ.out x (by simp [hx])
       clear hlo heq
       go_wp2_with fail
       go_quiet (fail)
       have hdA : Below wr.heap.size wr (wr.drewN nq) := Below.drewN' (Below.refl _ _) nq
       have HGA := Lib.hid (HG2.out.kept hdA)
       have HCA := Lib.hid (HC2.out.kept hdA)
       have HDA := Lib.hid hdA
       clear hdA
       generalize wr.drewN nq = wA at *
       have hyA : wA.cell? ⟨yg, yo, none⟩ = some (.int .i64 yv') := HYR.out _ _ HGA.out.r 0 _ rfl
       obtain ⟨q0, q1, q2, q3, _⟩ := cellsL4 HCA.out.blk
       clear hr2 hy0
       go_wp2_with fail
       go_quiet (fail)
       have hdB : Below wA.heap.size wA (wA.drewN nq) := Below.drewN' (Below.refl _ _) nq
       have HGB := Lib.hid (HGA.out.kept hdB)
       have HCB := Lib.hid (HCA.out.kept hdB)
       have HDB := Lib.hid hdB
       clear hdB
       generalize wA.drewN nq = wB2 at *
       have hrr : wB2.rangeAt yg (yo + 1) [.bool ys, .slice ya yl yc, .slice yb yk ye] := by
        have h0 := HYR.out _ _ HGB.out.r
        intro i u hu
        rw [show yo + 1 + i = yo + (i + 1) by omega]
        exact h0 (i + 1) u (by simpa using hu)
       have HAD8 := Lib.hid (gotO_add (HGB.out.r.kept (below_drew wB2)).self ((HXO.out _ _ HGB.out.r).kept (below_drew wB2)) ((HYO.out _ _ HGB.out.r).kept (below_drew wB2)) (by have := HZX.out; omega) (by have := HZY.out; (try dsimp only at this); omega))
       have HSQ : Hid (szQ (xq + yq) ≤ 1000000) := Lib.hid (by have := HZX.out; have := HZY.out; (try dsimp only at *); have := szQ_add xq yq; omega)
       obtain ⟨q0, q1, q2, q3, _⟩ := cellsL4 HCB.out.blk
       by_cases hc1 : cm = 1
       ·have had := HHAD.out.2.2 hc1
        have HADN := Lib.hid had
        have HL0 : Hid (rs'.length = 0) := Lib.hid (by have := HNM.out; omega)
        subst hc1
        clear had
        go_wp2_with fail
        refine wp_region_held_drew (S := (fun w' => w'.rangeAt yg (yo + 1) [.bool ys, .slice ya yl yc, .slice yb yk ye])) (by kernel_rfl) ?_ (fun hHeld => ?_)
        ·exact (rangeAt_kept hrr (below_drew wB2) (rangeAt_lt hrr (by simp)))
        refine tkV 0 hHeld ?_
        try simp only [Act.put, zA, zB, zC, zD, zE, zF]
        refine tkV 1 hHeld ?_
        try simp only [Act.put, zA, zB, zC, zD, zE, zF]
        refine tkV 3 hHeld ?_
        try simp only [Act.put, zA, zB, zC, zD, zE, zF]
        refine tkV 4 hHeld ?_
        try simp only [Act.put, zA, zB, zC, zD, zE, zF]
        refine tkV 5 hHeld ?_
        try simp only [Act.put, zA, zB, zC, zD, zE, zF]
        refine tkL 6 (v := .agg #[.bool ys, .slice ya yl yc, .slice yb yk ye]) ?_ hHeld ?_
        ·intro w' hSw
         exact run_load_op 27 (.tmp 59) (by rfl) yg (yo + 1) (by rfl) _ _ hSw Tryz.underlying27 rfl (by rw [size_ratio]; rfl)
        try simp only [Act.put, zA, zB, zC, zD, zE, zF]
        refine tkV 8 hHeld ?_
        try simp only [Act.put, zA, zB, zC, zD, zE, zF]
        refine tkV 9 hHeld ?_
        try simp only [Act.put, zA, zB, zC, zD, zE, zF]
        refine rdy [2] ?_
        refine AllReadyH.cons (by rfl) (fun K hK => ?_) AllReadyH.nil
        go_simp
        refine hK.out _ _ ?_ (fun hHeld => ?_)
        ·exact hHeld
        clear hK K
        try simp only [Act.put, zA, zB, zC, zD, zE, zF]
        refine rdy [7] ?_
        refine AllReadyH.cons (by rfl) (fun K hK => ?_) AllReadyH.nil
        go_simp
        refine (HAD8.out).mono ?_
        rintro e w7 ⟨s8, e1, f1, g1, e2, f2, g2, rfl, hr7, hv7⟩
        have hr7 := Lib.hid (BR.trans (HGB.out.r.self.kept (below_drew wB2)) hr7.out)
        have hrr7 := rangeAt_grown hrr hr7.out.g HYB.out
        obtain ⟨nn, hN7, hZ7, hO7⟩ := left_num hv7.out (by have := HSQ.out; omega)
        have hC7 := HCB.out.bench HLT.out hr7.out
        have hM7 := hC7.blk
        obtain ⟨hM8, hg8⟩ := mono_set (t := s8) (y1 := .slice e1 f1 g1) (y2 := .slice e2 f2 g2) hM7
        have hno7 := noLimbM hM7
        obtain ⟨w8, hw8⟩ : ∃ w8, w8 = (((w7.setCell ⟨M, 1, none⟩ (.bool s8)).setCell ⟨M, 2, none⟩ (.slice e1 f1 g1)).setCell ⟨M, 3, none⟩ (.slice e2 f2 g2)) := ⟨_, rfl⟩
        rw [← hw8] at hM8 hg8
        have HS8 := Lib.hid ((HGB.out.bench hr7.out (fun e => (Bool.or_eq_false_iff.1 e).1)).past hg8 hC7.ge hC7.ne hno7)
        have HM8 := Lib.hid hM8
        have HN8 := Lib.hid (hN7.pastL hno7 hg8)
        have HD8 : Hid ((oj || ovQ m (xq + yq)) = false → RM.ok ⟨v, s8, e1, f1, g1, e2, f2, g2⟩ (v, xq + yq) w8) := Lib.hid fun e => ⟨rfl, (hO7 e).pastL hno7 hg8⟩
        have HZE : Hid ((oj || ovQ m (xq + yq)) = false → nn = 0 → mgQ (xq + yq) = 0) := Lib.hid fun e h => by rw [← hZ7 e]; exact h
        have HZN : Hid ((oj || ovQ m (xq + yq)) = false → mgQ (xq + yq) = 0 → nn = 0) := Lib.hid fun e h => by rw [hZ7 e]; exact h
        have HW8 := Lib.hid hw8
        have HG8 := Lib.hid hg8
        obtain ⟨_, _, _, _, p0, p1, p2, p3⟩ := cellsL4 hM7
        refine hK.out _ _ ?_ (fun hHeld => ?_)
        ·exact hrr7
        clear hK K
        try simp only [Act.put, zA, zB, zC, zD, zE, zF]
        refine tkV 10 hHeld ?_
        try simp only [Act.put, zA, zB, zC, zD, zE, zF]
        refine rdy [11] ?_
        refine AllReadyH.cons (by rfl) (fun K hK => ?_) AllReadyH.nil
        go_simp
        have hrr8 := rangeAt_grown hrr7 HG8.out (by have := hC7.ge; have := HYW.out; omega)
        rw [← HW8.out]
        refine hK.out _ _ ?_ (fun hHeld => ?_)
        ·exact hrr8
        clear hK K
        try simp only [Act.put, zA, zB, zC, zD, zE, zF]
        refine tkV 12 hHeld ?_
        try simp only [Act.put, zA, zB, zC, zD, zE, zF]
        refine wpAnyH_done (by kernel_rfl) ?_ _
        clear hHeld
        clear hr7 hv7 hN7 hZ7 hO7 hC7 hM7 hM8 hg8 hno7 hw8 hrr7 hrr8 p0 p1 p2 p3 HAD8 q0 q1 q2 q3 hrr
        obtain ⟨q0, q1, q2, q3, _⟩ := cellsL4 HM8.out
        have HSG := Lib.hid (SignE (s := s8) (a2 := e2) (l2 := f2) (c2 := g2) HN8.out)
        go_wp2_with fail
        refine HSG.out.mono ?_
        rintro e w9 ⟨x9, rfl, hx0, hb9⟩
        have HS9 := Lib.hid (HS8.out.kept hb9.out)
        have HM9 := Lib.hid (stayL HM8.out hb9.out)
        have HD9 := Lib.hid (fun e => (HD8.out e).kept hb9.out)
        clear HSG HS8 HM8 HD8 hb9 HW8
        by_cases hz : nn = 0
        ·have HFIN := Lib.hid (HS9.out.said (ms' := acc ++ keep (v, (xq + yq))) fun e => by
          rw [keep_none (HZE.out e hz), List.append_nil])
         rw [decide_eq_true hz] at hx0
         clear hz
         go_wp2_with fail
         go_roundw
         case rel => exact ⟨j + 1, ts, rs', acc ++ keep (v, (xq + yq)), more', _, _, _, by omega, by go_num, rfl, by rw [HL0.out], Lib.hid HADN.out, HFIN, Lib.hid (by have := HTL.out; have := HNM.out; (try simp only [List.length_append, List.length_cons, List.length_nil] at *); omega), HSZ2, HTOT2⟩
         case measure => exact measure_next hiw hlt
        ·rw [decide_eq_false hz] at hx0
         have hr9 := range4 HM9.out
         have hal := (Below.refl w9.heap.size w9).alloc (Nat.le_refl _) (.cells #[.int .i64 v, .bool s8, .slice e1 f1 g1, .slice e2 f2 g2] 51)
         have HS10 := Lib.hid (HS9.out.kept hal)
         have HD10 := Lib.hid (fun e => (HD9.out e).kept hal)
         have HNW : Hid (∀ (i : Nat) (u : Value), [Value.int .i64 v, .bool s8, .slice e1 f1 g1, .slice e2 f2 g2][i]? = some u → (w9.alloc (.cells #[.int .i64 v, .bool s8, .slice e1 f1 g1, .slice e2 f2 g2] 51)).cell? ((⟨w9.heap.size, 0, none⟩ : Addr).add i) = some u) := Lib.hid fun i u hu => by
          rw [Addr.add_mid]
          exact rangeAt_new w9 [.int .i64 v, .bool s8, .slice e1 f1 g1, .slice e2 f2 g2] _ i u hu
         have HOW := Lib.hid HS10.out.row
         have HPU := Lib.hid (fun w11 (h1' : OwnM w11 w.heap.size n (ts.length + 1) (cellsM ts ++ [.int .i64 v, .bool s8, .slice e1 f1 g1, .slice e2 f2 g2])) h2' => (HS10.out.push (ds := [⟨v, s8, e1, f1, g1, e2, f2, g2⟩]) (xs := [(v, (xq + yq))]) (fun e => ⟨rfl, one_ok (HD10.out e)⟩) (by rw [cellsM_one]; exact h1') h2').said (ms' := acc ++ keep (v, (xq + yq))) (fun e => by rw [keep_some (fun e2 => hz (HZN.out e e2))]))
         have HRM : Hid (ts.length + 1 ≤ n) := Lib.hid (by have := HTL.out; omega)
         have HON : Hid ((∀ u ∈ [Value.int .i64 v, .bool s8, .slice e1 f1 g1, .slice e2 f2 g2], u.oneCell' = true) ∧ (∀ u ∈ [Value.int .i64 v, .bool s8, .slice e1 f1 g1, .slice e2 f2 g2], GoodM u)) := Lib.hid ⟨by
          intro u hu
          simp only [List.mem_cons, List.not_mem_nil, or_false] at hu
          rcases hu with rfl | rfl | rfl | rfl <;> rfl, goodM_cells ⟨v, s8, e1, f1, g1, e2, f2, g2⟩⟩
         clear hz hal HM9 HD9 HS9
         go_wp2_with (first | (refine wpList_val (.agg #[.int .i64 v, .bool s8, .slice e1 f1 g1, .slice e2 f2 g2]) (run_load_op 51 (.tmp 9) (by with_reducible rfl) M 0 (by rfl) _ _ hr9 Tryz.underlying51 rfl (by rw [size_mono]; rfl)) (by rfl) ?_) | (at_builtin; refine wpList_appM rfl (.tmp 74) (.tmp 76) rfl w.heap.size ts.length n (cellsM ts) (by rfl) HOW.out ⟨w9.heap.size, 0, none⟩ 1 1 [.int .i64 v, .bool s8, .slice e1 f1 g1, .slice e2 f2 g2] (by rfl) (by rfl) HNW.out HON.out.1 HON.out.2 HRM.out ?_; intro w11 hown hgr; have HS12 := Lib.hid (HPU.out w11 hown hgr); clear hown hgr))
         go_roundw
         case rel => exact ⟨j + 1, ts ++ [⟨v, s8, e1, f1, g1, e2, f2, g2⟩], rs', acc ++ keep (v, (xq + yq)), more', _, _, _, by omega, by go_num, by simp, by rw [HL0.out], Lib.hid HADN.out, HS12, Lib.hid (by have := HTL.out; have := HNM.out; (try simp only [List.length_append, List.length_cons, List.length_nil] at *); omega), HSZ2, HTOT2⟩
         case measure => exact measure_next hiw hlt
       ·have had := HHAD.out.2.1
        have HADN := Lib.hid had
        have hcz : ¬ cm - 1 = 0 := by omega
        clear had
        go_wp2_with fail
        refine wp_region_held_drew (S := (fun w' => w'.rangeAt yg (yo + 1) [.bool ys, .slice ya yl yc, .slice yb yk ye])) (by kernel_rfl) ?_ (fun hHeld => ?_)
        ·exact (rangeAt_kept hrr (below_drew wB2) (rangeAt_lt hrr (by simp)))
        refine tkV 0 hHeld ?_
        try simp only [Act.put, zA, zB, zC, zD, zE, zF]
        refine tkV 1 hHeld ?_
        try simp only [Act.put, zA, zB, zC, zD, zE, zF]
        refine tkV 3 hHeld ?_
        try simp only [Act.put, zA, zB, zC, zD, zE, zF]
        refine tkV 4 hHeld ?_
        try simp only [Act.put, zA, zB, zC, zD, zE, zF]
        refine tkV 5 hHeld ?_
        try simp only [Act.put, zA, zB, zC, zD, zE, zF]
        refine tkL 6 (v := .agg #[.bool ys, .slice ya yl yc, .slice yb yk ye]) ?_ hHeld ?_
        ·intro w' hSw
         exact run_load_op 27 (.tmp 59) (by rfl) yg (yo + 1) (by rfl) _ _ hSw Tryz.underlying27 rfl (by rw [size_ratio]; rfl)
        try simp only [Act.put, zA, zB, zC, zD, zE, zF]
        refine tkV 8 hHeld ?_
        try simp only [Act.put, zA, zB, zC, zD, zE, zF]
        refine tkV 9 hHeld ?_
        try simp only [Act.put, zA, zB, zC, zD, zE, zF]
        refine rdy [2] ?_
        refine AllReadyH.cons (by rfl) (fun K hK => ?_) AllReadyH.nil
        go_simp
        refine hK.out _ _ ?_ (fun hHeld => ?_)
        ·exact hHeld
        clear hK K
        try simp only [Act.put, zA, zB, zC, zD, zE, zF]
        refine rdy [7] ?_
        refine AllReadyH.cons (by rfl) (fun K hK => ?_) AllReadyH.nil
        go_simp
        refine (HAD8.out).mono ?_
        rintro e w7 ⟨s8, e1, f1, g1, e2, f2, g2, rfl, hr7, hv7⟩
        have hr7 := Lib.hid (BR.trans (HGB.out.r.self.kept (below_drew wB2)) hr7.out)
        have hrr7 := rangeAt_grown hrr hr7.out.g HYB.out
        obtain ⟨nn, hN7, hZ7, hO7⟩ := left_num hv7.out (by have := HSQ.out; omega)
        have hC7 := HCB.out.bench HLT.out hr7.out
        have hM7 := hC7.blk
        obtain ⟨hM8, hg8⟩ := mono_set (t := s8) (y1 := .slice e1 f1 g1) (y2 := .slice e2 f2 g2) hM7
        have hno7 := noLimbM hM7
        obtain ⟨w8, hw8⟩ : ∃ w8, w8 = (((w7.setCell ⟨M, 1, none⟩ (.bool s8)).setCell ⟨M, 2, none⟩ (.slice e1 f1 g1)).setCell ⟨M, 3, none⟩ (.slice e2 f2 g2)) := ⟨_, rfl⟩
        rw [← hw8] at hM8 hg8
        have HS8 := Lib.hid ((HGB.out.bench hr7.out (fun e => (Bool.or_eq_false_iff.1 e).1)).past hg8 hC7.ge hC7.ne hno7)
        have HM8 := Lib.hid hM8
        have HN8 := Lib.hid (hN7.pastL hno7 hg8)
        have HD8 : Hid ((oj || ovQ m (xq + yq)) = false → RM.ok ⟨v, s8, e1, f1, g1, e2, f2, g2⟩ (v, xq + yq) w8) := Lib.hid fun e => ⟨rfl, (hO7 e).pastL hno7 hg8⟩
        have HZE : Hid ((oj || ovQ m (xq + yq)) = false → nn = 0 → mgQ (xq + yq) = 0) := Lib.hid fun e h => by rw [← hZ7 e]; exact h
        have HZN : Hid ((oj || ovQ m (xq + yq)) = false → mgQ (xq + yq) = 0 → nn = 0) := Lib.hid fun e h => by rw [hZ7 e]; exact h
        have HW8 := Lib.hid hw8
        have HG8 := Lib.hid hg8
        obtain ⟨_, _, _, _, p0, p1, p2, p3⟩ := cellsL4 hM7
        refine hK.out _ _ ?_ (fun hHeld => ?_)
        ·exact hrr7
        clear hK K
        try simp only [Act.put, zA, zB, zC, zD, zE, zF]
        refine tkV 10 hHeld ?_
        try simp only [Act.put, zA, zB, zC, zD, zE, zF]
        refine rdy [11] ?_
        refine AllReadyH.cons (by rfl) (fun K hK => ?_) AllReadyH.nil
        go_simp
        have hrr8 := rangeAt_grown hrr7 HG8.out (by have := hC7.ge; have := HYW.out; omega)
        rw [← HW8.out]
        refine hK.out _ _ ?_ (fun hHeld => ?_)
        ·exact hrr8
        clear hK K
        try simp only [Act.put, zA, zB, zC, zD, zE, zF]
        refine tkV 12 hHeld ?_
        try simp only [Act.put, zA, zB, zC, zD, zE, zF]
        refine wpAnyH_done (by kernel_rfl) ?_ _
        clear hHeld
        clear hr7 hv7 hN7 hZ7 hO7 hC7 hM7 hM8 hg8 hno7 hw8 hrr7 hrr8 p0 p1 p2 p3 HAD8 q0 q1 q2 q3 hrr
        obtain ⟨q0, q1, q2, q3, _⟩ := cellsL4 HM8.out
        have HSG := Lib.hid (SignE (s := s8) (a2 := e2) (l2 := f2) (c2 := g2) HN8.out)
        go_wp2_with fail
        refine HSG.out.mono ?_
        rintro e w9 ⟨x9, rfl, hx0, hb9⟩
        have HS9 := Lib.hid (HS8.out.kept hb9.out)
        have HM9 := Lib.hid (stayL HM8.out hb9.out)
        have HD9 := Lib.hid (fun e => (HD8.out e).kept hb9.out)
        clear HSG HS8 HM8 HD8 hb9 HW8
        by_cases hz : nn = 0
        ·have HFIN := Lib.hid (HS9.out.said (ms' := acc ++ keep (v, (xq + yq))) fun e => by
          rw [keep_none (HZE.out e hz), List.append_nil])
         rw [decide_eq_true hz] at hx0
         clear hz
         go_wp2_with fail
         go_roundw
         case rel => exact ⟨j + 1, ts, rs', acc ++ keep (v, (xq + yq)), more', _, _, _, by omega, by go_num, rfl, by rw [HNM.out, Nat.add_sub_cancel], Lib.hid HADN.out, HFIN, Lib.hid (by have := HTL.out; have := HNM.out; (try simp only [List.length_append, List.length_cons, List.length_nil] at *); omega), HSZ2, HTOT2⟩
         case measure => exact measure_next hiw hlt
        ·rw [decide_eq_false hz] at hx0
         have hr9 := range4 HM9.out
         have hal := (Below.refl w9.heap.size w9).alloc (Nat.le_refl _) (.cells #[.int .i64 v, .bool s8, .slice e1 f1 g1, .slice e2 f2 g2] 51)
         have HS10 := Lib.hid (HS9.out.kept hal)
         have HD10 := Lib.hid (fun e => (HD9.out e).kept hal)
         have HNW : Hid (∀ (i : Nat) (u : Value), [Value.int .i64 v, .bool s8, .slice e1 f1 g1, .slice e2 f2 g2][i]? = some u → (w9.alloc (.cells #[.int .i64 v, .bool s8, .slice e1 f1 g1, .slice e2 f2 g2] 51)).cell? ((⟨w9.heap.size, 0, none⟩ : Addr).add i) = some u) := Lib.hid fun i u hu => by
          rw [Addr.add_mid]
          exact rangeAt_new w9 [.int .i64 v, .bool s8, .slice e1 f1 g1, .slice e2 f2 g2] _ i u hu
         have HOW := Lib.hid HS10.out.row
         have HPU := Lib.hid (fun w11 (h1' : OwnM w11 w.heap.size n (ts.length + 1) (cellsM ts ++ [.int .i64 v, .bool s8, .slice e1 f1 g1, .slice e2 f2 g2])) h2' => (HS10.out.push (ds := [⟨v, s8, e1, f1, g1, e2, f2, g2⟩]) (xs := [(v, (xq + yq))]) (fun e => ⟨rfl, one_ok (HD10.out e)⟩) (by rw [cellsM_one]; exact h1') h2').said (ms' := acc ++ keep (v, (xq + yq))) (fun e => by rw [keep_some (fun e2 => hz (HZN.out e e2))]))
         have HRM : Hid (ts.length + 1 ≤ n) := Lib.hid (by have := HTL.out; omega)
         have HON : Hid ((∀ u ∈ [Value.int .i64 v, .bool s8, .slice e1 f1 g1, .slice e2 f2 g2], u.oneCell' = true) ∧ (∀ u ∈ [Value.int .i64 v, .bool s8, .slice e1 f1 g1, .slice e2 f2 g2], GoodM u)) := Lib.hid ⟨by
          intro u hu
          simp only [List.mem_cons, List.not_mem_nil, or_false] at hu
          rcases hu with rfl | rfl | rfl | rfl <;> rfl, goodM_cells ⟨v, s8, e1, f1, g1, e2, f2, g2⟩⟩
         clear hz hal HM9 HD9 HS9
         go_wp2_with (first | (refine wpList_val (.agg #[.int .i64 v, .bool s8, .slice e1 f1 g1, .slice e2 f2 g2]) (run_load_op 51 (.tmp 9) (by with_reducible rfl) M 0 (by rfl) _ _ hr9 Tryz.underlying51 rfl (by rw [size_mono]; rfl)) (by rfl) ?_) | (at_builtin; refine wpList_appM rfl (.tmp 74) (.tmp 76) rfl w.heap.size ts.length n (cellsM ts) (by rfl) HOW.out ⟨w9.heap.size, 0, none⟩ 1 1 [.int .i64 v, .bool s8, .slice e1 f1 g1, .slice e2 f2 g2] (by rfl) (by rfl) HNW.out HON.out.1 HON.out.2 HRM.out ?_; intro w11 hown hgr; have HS12 := Lib.hid (HPU.out w11 hown hgr); clear hown hgr))
         go_roundw
         case rel => exact ⟨j + 1, ts ++ [⟨v, s8, e1, f1, g1, e2, f2, g2⟩], rs', acc ++ keep (v, (xq + yq)), more', _, _, _, by omega, by go_num, by simp, by rw [HNM.out, Nat.add_sub_cancel], Lib.hid HADN.out, HS12, Lib.hid (by have := HTL.out; have := HNM.out; (try simp only [List.length_append, List.length_cons, List.length_nil] at *); omega), HSZ2, HTOT2⟩
         case measure => exact measure_next hiw hlt
      ·have hee : (yv' == v) = false := by simpa using heq
       have HTOT2 : Hid (acc ++ keep (v, xq) ++ merge (ms1.drop (j + 1)) ((yv', yq) :: more') = merge ms1 ms2 ∧ (oj || ovQ m xq || mergeO m (ms1.drop (j + 1)) ((yv', yq) :: more')) = (o || mergeO m ms1 ms2)) := Lib.hid (by
        obtain ⟨h1, h2⟩ := HTOT.out
        rw [(merge_above (m := m) (x := (v, xq)) (y := (yv', yq)) (by dsimp only; omega)).1] at h1
        rw [(merge_above (m := m) (x := (v, xq)) (y := (yv', yq)) (by dsimp only; omega)).2] at h2
        exact ⟨by rw [List.append_assoc]; exact h1, by rw [Bool.or_assoc]; exact h2⟩)
       have HSZ2 := HSZ
       clear hlo heq
       go_wp2_with fail
       go_quiet (fail)
       have hdA : Below wr.heap.size wr (wr.drewN nq) := Below.drewN' (Below.refl _ _) nq
       have HGA := Lib.hid (HG2.out.kept hdA)
       have HCA := Lib.hid (HC2.out.kept hdA)
       have HDA := Lib.hid hdA
       clear hdA
       generalize wr.drewN nq = wA at *
       have hyA : wA.cell? ⟨yg, yo, none⟩ = some (.int .i64 yv') := HYR.out _ _ HGA.out.r 0 _ rfl
       obtain ⟨q0, q1, q2, q3, _⟩ := cellsL4 HCA.out.blk
       clear hr2 hy0
       go_wp2_with fail
       go_quiet (fail)
       have hdB : Below wA.heap.size wA (wA.drewN nq) := Below.drewN' (Below.refl _ _) nq
       have HGB := Lib.hid (HGA.out.kept hdB)
       have HCB := Lib.hid (HCA.out.kept hdB)
       have HDB := Lib.hid hdB
       clear hdB
       generalize wA.drewN nq = wB2 at *
       obtain ⟨q0, q1, q2, q3, _⟩ := cellsL4 HCB.out.blk
       have HAN := Lib.hid (answer_any HGB.out.r.bench HGB.out.r.tab (HXO.out _ _ HGB.out.r) (by have := HZX.out; omega))
       have HSQ : Hid (szQ xq ≤ 1000000) := Lib.hid (by have := HZX.out; omega)
       go_wp2_with fail
       refine HAN.out.mono ?_
       rintro e w7 ⟨s8, e1, f1, g1, e2, f2, g2, rfl, hr7, hv7⟩
       obtain ⟨nn, hN7, hZ7, hO7⟩ := ans_num hv7.out (by have := HSQ.out; omega)
       have hC7 := HCB.out.bench HLT.out hr7.out
       have hM7 := hC7.blk
       obtain ⟨hM8, hg8⟩ := mono_set (t := s8) (y1 := .slice e1 f1 g1) (y2 := .slice e2 f2 g2) hM7
       have hno7 := noLimbM hM7
       obtain ⟨w8, hw8⟩ : ∃ w8, w8 = (((w7.setCell ⟨M, 1, none⟩ (.bool s8)).setCell ⟨M, 2, none⟩ (.slice e1 f1 g1)).setCell ⟨M, 3, none⟩ (.slice e2 f2 g2)) := ⟨_, rfl⟩
       rw [← hw8] at hM8 hg8
       have HS8 := Lib.hid ((HGB.out.bench hr7.out (fun e => (Bool.or_eq_false_iff.1 e).1)).past hg8 hC7.ge hC7.ne hno7)
       have HM8 := Lib.hid hM8
       have HN8 := Lib.hid (hN7.pastL hno7 hg8)
       have HD8 : Hid ((oj || ovQ m xq) = false → RM.ok ⟨v, s8, e1, f1, g1, e2, f2, g2⟩ (v, xq) w8) := Lib.hid fun e => ⟨rfl, (hO7 e).pastL hno7 hg8⟩
       have HZE : Hid ((oj || ovQ m xq) = false → nn = 0 → mgQ (xq) = 0) := Lib.hid fun e h => by rw [← hZ7 e]; exact h
       have HZN : Hid ((oj || ovQ m xq) = false → mgQ (xq) = 0 → nn = 0) := Lib.hid fun e h => by rw [hZ7 e]; exact h
       have HW8 := Lib.hid hw8
       have HG8 := Lib.hid hg8
       obtain ⟨_, _, _, _, p0, p1, p2, p3⟩ := cellsL4 hM7
       clear hr7 hv7 hN7 hZ7 hO7 hC7 hM7 hM8 hg8 hno7 hw8 HAN q0 q1 q2 q3
       have HSG := Lib.hid (SignE (s := s8) (a2 := e2) (l2 := f2) (c2 := g2) HN8.out)
       go_wp2_with fail
       rw [← HW8.out]
       refine HSG.out.mono ?_
       rintro e w9 ⟨x9, rfl, hx0, hb9⟩
       have HS9 := Lib.hid (HS8.out.kept hb9.out)
       have HM9 := Lib.hid (stayL HM8.out hb9.out)
       have HD9 := Lib.hid (fun e => (HD8.out e).kept hb9.out)
       clear HSG HS8 HM8 HD8 hb9 HW8
       by_cases hz : nn = 0
       ·have HFIN := Lib.hid (HS9.out.said (ms' := acc ++ keep (v, xq)) fun e => by
         rw [keep_none (HZE.out e hz), List.append_nil])
        rw [decide_eq_true hz] at hx0
        clear hz
        go_wp2_with fail
        go_roundw
        case rel => exact ⟨j + 1, ts, (RM.mk yv' ys ya yl yc yb yk ye :: rs'), acc ++ keep (v, xq), ((yv', yq) :: more'), _, _, _, by omega, by go_num, rfl, by rw [HNM0.out], Lib.hid HAD.out, HFIN, Lib.hid (by have := HTL.out; have := HNM.out; (try simp only [List.length_append, List.length_cons, List.length_nil] at *); omega), HSZ2, HTOT2⟩
        case measure => exact measure_next hiw hlt
       ·rw [decide_eq_false hz] at hx0
        have hr9 := range4 HM9.out
        have hal := (Below.refl w9.heap.size w9).alloc (Nat.le_refl _) (.cells #[.int .i64 v, .bool s8, .slice e1 f1 g1, .slice e2 f2 g2] 51)
        have HS10 := Lib.hid (HS9.out.kept hal)
        have HD10 := Lib.hid (fun e => (HD9.out e).kept hal)
        have HNW : Hid (∀ (i : Nat) (u : Value), [Value.int .i64 v, .bool s8, .slice e1 f1 g1, .slice e2 f2 g2][i]? = some u → (w9.alloc (.cells #[.int .i64 v, .bool s8, .slice e1 f1 g1, .slice e2 f2 g2] 51)).cell? ((⟨w9.heap.size, 0, none⟩ : Addr).add i) = some u) := Lib.hid fun i u hu => by
         rw [Addr.add_mid]
         exact rangeAt_new w9 [.int .i64 v, .bool s8, .slice e1 f1 g1, .slice e2 f2 g2] _ i u hu
        have HOW := Lib.hid HS10.out.row
        have HPU := Lib.hid (fun w11 (h1' : OwnM w11 w.heap.size n (ts.length + 1) (cellsM ts ++ [.int .i64 v, .bool s8, .slice e1 f1 g1, .slice e2 f2 g2])) h2' => (HS10.out.push (ds := [⟨v, s8, e1, f1, g1, e2, f2, g2⟩]) (xs := [(v, xq)]) (fun e => ⟨rfl, one_ok (HD10.out e)⟩) (by rw [cellsM_one]; exact h1') h2').said (ms' := acc ++ keep (v, xq)) (fun e => by rw [keep_some (fun e2 => hz (HZN.out e e2))]))
        have HRM : Hid (ts.length + 1 ≤ n) := Lib.hid (by have := HTL.out; omega)
        have HON : Hid ((∀ u ∈ [Value.int .i64 v, .bool s8, .slice e1 f1 g1, .slice e2 f2 g2], u.oneCell' = true) ∧ (∀ u ∈ [Value.int .i64 v, .bool s8, .slice e1 f1 g1, .slice e2 f2 g2], GoodM u)) := Lib.hid ⟨by
         intro u hu
         simp only [List.mem_cons, List.not_mem_nil, or_false] at hu
         rcases hu with rfl | rfl | rfl | rfl <;> rfl, goodM_cells ⟨v, s8, e1, f1, g1, e2, f2, g2⟩⟩
        clear hz hal HM9 HD9 HS9
        go_wp2_with (first | (refine wpList_val (.agg #[.int .i64 v, .bool s8, .slice e1 f1 g1, .slice e2 f2 g2]) (run_load_op 51 (.tmp 9) (by with_reducible rfl) M 0 (by rfl) _ _ hr9 Tryz.underlying51 rfl (by rw [size_mono]; rfl)) (by rfl) ?_) | (at_builtin; refine wpList_appM rfl (.tmp 74) (.tmp 76) rfl w.heap.size ts.length n (cellsM ts) (by rfl) HOW.out ⟨w9.heap.size, 0, none⟩ 1 1 [.int .i64 v, .bool s8, .slice e1 f1 g1, .slice e2 f2 g2] (by rfl) (by rfl) HNW.out HON.out.1 HON.out.2 HRM.out ?_; intro w11 hown hgr; have HS12 := Lib.hid (HPU.out w11 hown hgr); clear hown hgr))
        go_roundw
        case rel => exact ⟨j + 1, ts ++ [⟨v, s8, e1, f1, g1, e2, f2, g2⟩], (RM.mk yv' ys ya yl yc yb yk ye :: rs'), acc ++ keep (v, xq), ((yv', yq) :: more'), _, _, _, by omega, by go_num, by simp, by rw [HNM0.out], Lib.hid HAD.out, HS12, Lib.hid (by have := HTL.out; have := HNM.out; (try simp only [List.length_append, List.length_cons, List.length_nil] at *); omega), HSZ2, HTOT2⟩
        case measure => exact measure_next hiw hlt
  ·obtain rfl : j = n1 := by omega
   have htk : ms1.drop j = [] := List.drop_eq_nil_of_le (by have := H1.out.1.len; have := HN.out; omega)
   rw [htk] at HTOT0
   have HT1 : Hid (acc0 ++ more0 = merge ms1 ms2) := Lib.hid HTOT0.out.1
   have HT2 : Hid (oj = (o || mergeO m ms1 ms2)) := Lib.hid (by have := HTOT0.out.2; simp only [mergeO, Bool.or_false] at this; exact this)
   have HMR := Lib.hid (HAD0.out.bench HB0.out.1 HG0.out.r)
   have HRM : Hid (ts0.length + rsm0.length ≤ n) := Lib.hid (by have := HTL0.out; omega)
   have HPU := Lib.hid (fun w11 (h1' : OwnM w11 w.heap.size n (ts0.length + rsm0.length) (cellsM ts0 ++ cellsM rsm0)) h2' => (HG0.out.push (ds := rsm0) (xs := more0) (fun e => ⟨HMR.out.ms.len, HMR.out.ms.vals⟩) h1' h2').said (fun _ => HT1.out))
   have hnc : n ≤ 1000000 := by have := HN.out; have := HNN.out; omega
   have HNC := Lib.hid hnc
   rcases am0 with _ | ax
   ·obtain ⟨hz1, hz2⟩ := HAD0.out.nil rfl
    subst hz1 hz2
    have HE := Lib.hid (HG0.out.said (ms' := merge ms1 ms2) (fun _ => by
     rw [← HT1.out]
     have : more0 = [] := List.eq_nil_of_length_eq_zero (by have := HMR.out.ms.len; simpa using this.symm)
     rw [this, List.append_nil]))
    have HOW := Lib.hid HG0.out.row
    go_wp2_with (at_builtin; refine wpList_app_nilM rfl (.tmp 79) (.tmp 80) rfl w.heap.size ts0.length n (cellsM ts0) (by rfl) HOW.out (by rfl) ?_)
    go_ret
    rw [← HT2.out]
    exact HE.out.got HNC.out
   ·have HNW := Lib.hid (HMR.out.ms.addr rfl)
    have HOW := Lib.hid HG0.out.row
    go_wp2_with (at_builtin; refine wpList_appM rfl (.tmp 79) (.tmp 80) rfl w.heap.size ts0.length n (cellsM ts0) (by rfl) HOW.out ax rsm0.length cm0 (cellsM rsm0) (by rfl) (cellsM_len rsm0) HNW.out (oneM_cells rsm0) (goodM_all rsm0) HRM.out ?_; intro w11 hown hgr; have HS12 := Lib.hid (HPU.out w11 hown hgr); clear hown hgr)
    have HE := Lib.hid (HS12.out.got HNC.out)
    rw [List.length_append] at HE
    go_ret
    rw [← HT2.out]
    exact HE.out
end Go.Proofs.YtpjeecahaeaajaaGreatDoor

namespace Go.Proofs.YtpjeecahaeaajaaGreatDoor
open Go.RowKit Rep Ln
theorem scale_sz {k : Rat} {ms : List Mo} {n1 n2 : Nat} (hk : szQ k ≤ n1) (h : ∀ x ∈ ms, szQ x.2 ≤ n2) : ∀ x ∈ scale k ms, szQ x.2 ≤ n1 + n2 + 3 := by
 intro x hx
 obtain ⟨y, hy, h1⟩ := List.mem_flatMap.1 hx
 unfold keep at h1
 split at h1
 ·simp at h1
 ·simp at h1
  rw [h1]
  have := szQ_mul k y.2
  have := h y hy
  dsimp only
  omega
theorem scale_len (k : Rat) (ms : List Mo) : (scale k ms).length ≤ ms.length := by
 induction ms with
 | nil => simp [scale]
 | cons x ms ih =>
  have : scale k (x :: ms) = keep (x.1, k * x.2) ++ scale k ms := rfl
  rw [this, List.length_append, List.length_cons]
  have : (keep (x.1, k * x.2)).length ≤ 1 := by unfold keep; split <;> simp
  omega
theorem merge_len : ∀ (l r : List Mo), (merge l r).length ≤ l.length + r.length
 | [], r => by simp [merge]
 | x :: l, r => by
  have h1 := merge_len l (step1 x r).2
  have h2 : (step1 x r).1.length + (step1 x r).2.length ≤ r.length + 1 := by
   unfold step1
   have h3 : (meet x (r.dropWhile (below x))).1.length + (meet x (r.dropWhile (below x))).2.length ≤ (r.dropWhile (below x)).length + 1 := by
    have hk : ∀ y : Mo, (keep y).length ≤ 1 := fun y => by unfold keep; split <;> simp
    rcases r.dropWhile (below x) with _ | ⟨n, r'⟩
    ·have := hk x; simp [meet]; omega
    ·unfold meet
     dsimp only
     split
     ·have := hk (x.1, x.2 + n.2); simp; omega
     ·have := hk x; simp; omega
   have h4 := congrArg List.length (take_drop (below x) r)
   simp only [List.length_append] at h4 ⊢
   omega
  simp only [merge, List.length_append, List.length_cons]
  omega
def NoI64 (w : World) (g : Nat) : Prop := ∀ off i, w.cell? ⟨g, off, none⟩ = some (.int .i64 i) → False
theorem poly_noI {W : World} {r : Nat} {s : Bool} {z1 z2 z3 : Option Addr} {m1 k1 m2 k2 m3 k3 : Nat} {t : TypeId} (h : W.heap[r]? = some (.cells #[.bool s, .slice z1 m1 k1, .slice z2 m2 k2, .slice z3 m3 k3] t (0, 0))) : NoI64 W r ∧ NoLimb W r := by
 refine ⟨fun off i e => ?_, noLimb4 h (.inr (.inl ⟨_, rfl⟩)) (.inr (.inr ⟨_, _, _, rfl⟩)) (.inr (.inr ⟨_, _, _, rfl⟩)) (.inr (.inr ⟨_, _, _, rfl⟩))⟩
 rcases off with _ | _ | _ | _ | off <;> simp [World.cell?, h] at e
theorem rat_noI {W : World} {r : Nat} {s : Bool} {z1 z2 : Option Addr} {m1 k1 m2 k2 : Nat} {t : TypeId} (h : W.heap[r]? = some (.cells #[.bool s, .slice z1 m1 k1, .slice z2 m2 k2] t (0, 0))) : NoI64 W r ∧ NoLimb W r := by
 refine ⟨fun off i e => ?_, fun off i e => ?_⟩ <;> rcases off with _ | _ | _ | off <;> simp [World.cell?, h] at e
section
variable {W W' : World} {a : Option Addr} {rs : List RM} {ms : List Mo} {R : Nat}
theorem MsAt.past (h : MsAt W a rs ms) (h1 : NoI64 W R ∧ NoLimb W R) (hg : W.grownBy W' (some R)) : MsAt W' a rs ms := by
 refine ⟨?_, h.len, fun i d m h2 h3 => (h.vals i d m h2 h3).past h1.2 hg⟩
 rcases h.mem with e | ⟨g, off, e, hr⟩
 ·exact .inl e
 ·refine .inr ⟨g, off, e, fun i d hd => rangeAt_grown (hr i d hd) hg ?_⟩
  rintro rfl
  exact h1.1 _ _ (hr i d hd 0 _ rfl)
theorem PolyAt.past {c : Rat} {v : RawR} (h : PolyAt c ms v a rs W) (h1 : NoI64 W R ∧ NoLimb W R) (hg : W.grownBy W' (some R)) : PolyAt c ms v a rs W' := ⟨h.num.pastL h1.2 hg, h.ms.past h1 hg⟩
end
def zPoly : Array Value := #[.bool false, .slice none 0 0, .slice none 0 0, .slice none 0 0]
theorem zero_poly (w : World) : (zeroValue 30).run Tryz.prog w = .ok (.agg zPoly) w := by
 unfold zPoly
 go_simp
theorem one_poly (s : Bool) (z1 z2 z3 : Option Addr) (m1 k1 m2 k2 m3 k3 : Nat) : (#[Value.bool s, .slice z1 m1 k1, .slice z2 m2 k2, .slice z3 m3 k3]).all (·.oneCell') = true := by simp [Value.oneCell']
theorem fin_poly2 {w W : World} {b m R : Nat} {c : Rat} {ms : List Mo} {s : Bool} {z1 z2 a : Option Addr} {m1 k1 m2 k2 cp : Nat} {rs : List RM} (hR : BR b m false w W) (hT : Tab w) (hb : b < w.heap.size) (hRw : w.heap.size ≤ R)
    (h3 : W.heap[R]? = some (.cells #[.bool false, .slice none 0 0, .slice none 0 0, .slice none 0 0] 30 (0, 0))) (hp : PolyAt c ms (s, (z1, m1, k1), (z2, m2, k2)) a rs W) (hl : rs.length ≤ cp) (hc : cp ≤ 1000000) (hn : a = none → rs = [] ∧ cp = 0) :
    GotP b m false w c ms (.returned (.agg #[.bool s, .slice z1 m1 k1, .slice z2 m2 k2, .slice a rs.length cp])) (putL4 W R (.bool s) (.slice z1 m1 k1) (.slice z2 m2 k2) (.slice a rs.length cp)) :=
 ⟨_, _, _, _, _, _, _, a, cp, rs, rfl, Lib.hid (hR.setL hT hb hRw _ _ _ _), Lib.hid (hp.past (poly_noI h3) (putL4_grown _ _ _ _ _ _)), hl, hc, hn⟩
theorem fin_zero2 {w W : World} {b m R : Nat} {c : Rat} {ms : List Mo} (hR : BR b m true w W) (hT : Tab w) (hb : b < w.heap.size) (hRw : w.heap.size ≤ R) :
    GotP b m true w c ms (.returned (.agg #[.bool false, .slice none 0 0, .slice none 0 0, .slice none 0 0])) (putL4 W R (.bool false) (.slice none 0 0) (.slice none 0 0) (.slice none 0 0)) :=
 ⟨_, _, _, _, _, _, _, none, 0, [], rfl, Lib.hid (hR.setL hT hb hRw _ _ _ _), Lib.hid (PolyAt.zero _), Nat.le_refl _, by omega, fun _ => ⟨rfl, rfl⟩⟩
def addO (m : Nat) (o : Bool) (c1 : Rat) (ms1 : List Mo) (k c2 : Rat) (ms2 : List Mo) : Bool := (o || ovQ m (k * c2) || scaleO m k ms2) || ovQ m (c1 + k * c2) || mergeO m ms1 (scale k ms2)
end Go.Proofs.YtpjeecahaeaajaaGreatDoor

namespace Go.Proofs.YtpjeecahaeaajaaGreatDoor
open Go.RowKit Rep Ln
structure AddAt (W6 : World) (b m : Nat) (o : Bool) (c : Rat) (ms : List Mo) (i : Nat × RawR × Nat × List RM × Nat) (W : World) : Prop where
 r : BR b m o W6 W
 blk : W.heap[i.1]? = some (.cells #[.bool i.2.1.1, .slice i.2.1.2.1.1 i.2.1.2.1.2.1 i.2.1.2.1.2.2, .slice i.2.1.2.2.1 i.2.1.2.2.2.1 i.2.1.2.2.2.2, .slice (some ⟨i.2.2.1, 0, none⟩) i.2.2.2.1.length i.2.2.2.2] 30 (0, 0))
 ge : W6.heap.size ≤ i.1
 poly : o = false → PolyAt c ms i.2.1 (some ⟨i.2.2.1, 0, none⟩) i.2.2.2.1 W
 le : i.2.2.2.1.length ≤ i.2.2.2.2
 max : i.2.2.2.2 ≤ 1000000
theorem add_end {W6 W : World} {b m : Nat} {o oA : Bool} {c : Rat} {ms : List Mo} {P : Nat} {s : Bool} {z1 z2 : Option Addr} {m1 k1 m2 k2 G cp : Nat} {rs : List RM} (h : BR b m o W6 W) (hT : Tab W6) (hb : b < W6.heap.size)
    (hP : W.heap[P]? = some (.cells #[.bool false, .slice none 0 0, .slice none 0 0, .slice none 0 0] 30 (0, 0))) (hp : W6.heap.size ≤ P) (hv : VQ (leftQ oA c) (s, (z1, m1, k1), (z2, m2, k2)) W) (hm : o = false → MsAt W (some ⟨G, 0, none⟩) rs ms) (hl : rs.length ≤ cp) (hc : cp ≤ 1000000) (hoA : o = false → oA = false) :
    AddAt W6 b m o c ms (P, (s, (z1, m1, k1), (z2, m2, k2)), (G, rs, cp)) (putL4 W P (.bool s) (.slice z1 m1 k1) (.slice z2 m2 k2) (.slice (some ⟨G, 0, none⟩) rs.length cp)) := by
 have hno := poly_noI hP
 have hg := putL4_grown W P (.bool s) (.slice z1 m1 k1) (.slice z2 m2 k2) (.slice (some ⟨G, 0, none⟩) rs.length cp)
 refine ⟨h.setL hT hb hp _ _ _ _, putL4_block hP _ _ _ _, hp, fun e => ⟨?_, (hm e).past hno hg⟩, hl, hc⟩
 have := hv.pastL hno.2 hg
 rw [hoA e] at this
 exact this
set_option maxRecDepth 100000 in
set_option maxHeartbeats 16000000 in
theorem Add_p {w : World} {b m : Nat} {o : Bool} {k c1 c2 : Rat} {ms1 ms2 : List Mo} {ps : Bool} {pa pb : Option Addr} {pl pc pk pe : Nat} {ks : Bool} {ka kb : Option Addr} {kl kc kk ke : Nat} {qs : Bool} {qa qb : Option Addr} {ql qc qk qe : Nat} {a1 a2 : Option Addr} {cp1 cp2 : Nat} {rs1 rs2 : List RM} (hB : Bench w b m o) (hT : Tab w)
    (hp : PolyAt c1 ms1 (ps, (pa, pl, pc), (pb, pk, pe)) a1 rs1 w) (hk : VQ k (ks, (ka, kl, kc), (kb, kk, ke)) w) (hq : PolyAt c2 ms2 (qs, (qa, ql, qc), (qb, qk, qe)) a2 rs2 w) (zk : szQ k ≤ 400) (z1 : szQ c1 ≤ 400) (zm1 : ∀ x ∈ ms1, szQ x.2 ≤ 400) (z2 : szQ c2 ≤ 400) (zm2 : ∀ x ∈ ms2, szQ x.2 ≤ 400) (hn1 : rs1.length ≤ 500) (hn2 : rs2.length ≤ 500) :
    Calls Tryz.prog 16 #[.pointer (some ⟨b, 0, none⟩), .agg #[.bool ps, .slice pa pl pc, .slice pb pk pe, .slice a1 rs1.length cp1], .agg #[.bool ks, .slice ka kl kc, .slice kb kk ke], .agg #[.bool qs, .slice qa ql qc, .slice qb qk qe, .slice a2 rs2.length cp2]] w (GotP b m (addO m o c1 ms1 k c2 ms2) w (c1 + k * c2) (merge ms1 (scale k ms2))) := by
 obtain ⟨W0, hW0, hB0, b0, b1, b2, b3, hs⟩ := boxes4 w #[.bool ps, .slice pa pl pc, .slice pb pk pe, .slice a1 rs1.length cp1] #[.bool ks, .slice ka kl kc, .slice kb kk ke] #[.bool qs, .slice qa ql qc, .slice qb qk qe, .slice a2 rs2.length cp2] #[.bool false, .slice none 0 0, .slice none 0 0, .slice none 0 0] 30 27 30 30
 have hT0 := hT.kept hB0
 have hBB := hB.kept hB0
 have hbl := hB.lt
 have hR0 : BR b m o w W0 := (BR.refl hB hT).kept hB0
 have HSC := Lib.hid (Scale_any (cp := cp2) hBB hT0 (hk.kept hB0) (hq.kept hB0) (by omega) (by omega) (fun x hx => by have := zm2 x hx; omega) (by omega))
 have HP0 := Lib.hid (hp.kept hB0)
 have HBT := Lib.hid (And.intro hBB hT0)
 have HSZ := Lib.hid (And.intro z1 (And.intro zm1 (And.intro zk (And.intro z2 (And.intro zm2 (And.intro hn1 (And.intro hn2 hq.ms.len)))))))
 have HBLK := Lib.hid (And.intro b0 (And.intro b3 (And.intro hs (And.intro hR0 (And.intro hT hbl)))))
 have HW0 := Lib.hid hW0
 obtain ⟨q0, q1, q2, q3, _⟩ := cellsL4 b2
 obtain ⟨r0, r1, r2, _⟩ := cells3 b1
 obtain ⟨n1, hn1'⟩ : ∃ n, rs1.length = n := ⟨_, rfl⟩
 have HN1 := Lib.hid hn1'
 obtain ⟨n2, hn2'⟩ : ∃ n, rs2.length = n := ⟨_, rfl⟩
 rw [hn1'] at hW0 HW0 HBLK ⊢
 rw [hn2'] at hW0 HW0 HSC q3 ⊢
 clear hB hT hp hk hq zk z1 zm1 z2 zm2 hn1 hn2 hT0 hBB hbl hR0 hB0 b0 b1 b2 b3 hs hn1' hn2'
 rw [hW0] at q0 q1 q2 q3 r0 r1 r2
 clear hW0
 go_enter Tryz.func16, Tryz.ntmps16
 go_wp2_with fail
 rw [← HW0.out]
 refine HSC.out.mono ?_
 rintro e w5 ⟨s9, y1, l1, d1, y2, l2, d2, a9, cp9, rs9, rfl, hr5, hp5, hl9, hc9, hn9⟩
 clear q0 q1 q2 q3 r0 r1 r2 HSC
 have hal := (Below.refl w5.heap.size w5).alloc (Nat.le_refl _) (.cells #[.bool s9, .slice y1 l1 d1, .slice y2 l2 d2, .slice a9 rs9.length cp9] 30)
 obtain ⟨W6, hW6⟩ : ∃ W6, W6 = w5.alloc (.cells #[.bool s9, .slice y1 l1 d1, .slice y2 l2 d2, .slice a9 rs9.length cp9] 30) := ⟨_, rfl⟩
 rw [← hW6] at hal
 generalize ho1 : (o || ovQ m (k * c2) || scaleO m k ms2) = o1 at hr5 hp5
 have hmb : W6.heap[w5.heap.size]? = some (.cells #[.bool s9, .slice y1 l1 d1, .slice y2 l2 d2, .slice a9 rs9.length cp9] 30 (0, 0)) := by rw [hW6]; exact heap_alloc_new w5 _
 have hpb : W6.heap[w.heap.size]? = _ := stayL (hr5.out.block HBLK.out.1 (by have := HBLK.out.2.2.2.2.2; omega)) hal
 have hrb : W6.heap[w.heap.size + 1 + 1 + 1]? = _ := stayL (hr5.out.block HBLK.out.2.1 (by have := HBLK.out.2.2.2.2.2; omega)) hal
 have hr6 := (hr5.out.kept hal)
 have hbw : BR b m o1 W6 W6 := hr6.self
 have HWR := Lib.hid (BR.trans HBLK.out.2.2.2.1 hr6)
 have hb6 : b < W6.heap.size := hr6.bench.lt
 have hp6 := (HP0.out.bench HBT.out.1 hr5.out).kept hal
 have hm6 := hp5.out.kept hal
 have hmb9 : w5.heap.size ≠ b := by have := hr5.out.bench.lt; omega
 have hpb9 : w.heap.size ≠ b := by have := HBLK.out.2.2.2.2.2; omega
 have hzl : ∀ x ∈ leftM o1 (scale k ms2), szQ x.2 ≤ 1900 := fun x hx => by
  unfold leftM at hx
  split at hx
  ·simp at hx
  ·have := scale_sz HSZ.out.2.2.1 HSZ.out.2.2.2.2.1 x hx; omega
 have hl9' : rs9.length ≤ 1000 := by
  have h1 := hm6.ms.len
  have h2 := scale_len k ms2
  have h3 := HSZ.out.2.2.2.2.2.2
  unfold leftM at h1
  split at h1
  ·simp at h1; simp [h1]
  ·omega
 have hz2 : szQ (leftQ o1 (k * c2)) ≤ 4000 := leftQ_sz (by have := HSZ.out; have := szQ_mul k c2; omega)
 have HC1 : Hid (∀ W, BR b m o1 W6 W → Calls Tryz.prog 30 #[.pointer (some ⟨b, 0, none⟩), .agg #[.bool ps, .slice pa pl pc, .slice pb pk pe], .agg #[.bool s9, .slice y1 l1 d1, .slice y2 l2 d2]] W (GotO b m (o1 || ovQ m (c1 + leftQ o1 (k * c2))) W (c1 + leftQ o1 (k * c2)))) := Lib.hid fun W h =>
  gotO_add h.self (hp6.num.benchL hbw.bench h.g) (hm6.num.benchL hbw.bench h.g) (by have := HSZ.out.1; omega) hz2
 have HC2 : Hid (∀ W, BR b m (o1 || ovQ m (c1 + leftQ o1 (k * c2))) W6 W → Calls Tryz.prog 35 #[.pointer (some ⟨b, 0, none⟩), .slice a1 rs1.length cp1, .slice a9 rs9.length cp9] W (GotM b m ((o1 || ovQ m (c1 + leftQ o1 (k * c2))) || mergeO m ms1 (leftM o1 (scale k ms2))) W (merge ms1 (leftM o1 (scale k ms2))))) := Lib.hid fun W h =>
  merge_any h.bench h.tab (hp6.ms.bench hbw.bench h) ⟨hm6.ms.bench hbw.bench h, hl9, hc9, hn9⟩ (fun x hx => by have := HSZ.out.2.1 x hx; omega) hzl (by have := HSZ.out; omega) hl9'
 have HOF : Hid (((o1 || ovQ m (c1 + leftQ o1 (k * c2))) || mergeO m ms1 (leftM o1 (scale k ms2))) = addO m o c1 ms1 k c2 ms2) := Lib.hid (by
  unfold addO
  rw [ho1]
  cases o1 <;> rfl)
 have HEX : Hid (((o1 || ovQ m (c1 + leftQ o1 (k * c2))) || mergeO m ms1 (leftM o1 (scale k ms2))) = false → c1 + leftQ o1 (k * c2) = c1 + k * c2 ∧ merge ms1 (leftM o1 (scale k ms2)) = merge ms1 (scale k ms2)) := Lib.hid fun e => by
  have : o1 = false := by
   cases o1
   ·rfl
   ·simp at e
  rw [this]
  exact ⟨rfl, rfl⟩
 have HOA : Hid (((o1 || ovQ m (c1 + leftQ o1 (k * c2))) || mergeO m ms1 (leftM o1 (scale k ms2))) = false → (o1 || ovQ m (c1 + leftQ o1 (k * c2))) = false) := Lib.hid fun e => (Bool.or_eq_false_iff.1 e).1
 rw [HOF.out] at HC2 HEX HOA
 rw [HN1.out] at HC2
 obtain ⟨n9, hn9'⟩ : ∃ n, rs9.length = n := ⟨_, rfl⟩
 rw [hn9'] at HC2 hmb hW6
 have HK : Hid (∀ p W, BR b m p W6 W → (W.cell? ⟨w.heap.size, 0, none⟩ = some (.bool ps) ∧ W.cell? ⟨w.heap.size, 1, none⟩ = some (.slice pa pl pc) ∧ W.cell? ⟨w.heap.size, 2, none⟩ = some (.slice pb pk pe) ∧ W.cell? ⟨w.heap.size, 3, none⟩ = some (.slice a1 n1 cp1) ∧ W.cell? ⟨w5.heap.size, 0, none⟩ = some (.bool s9) ∧ W.cell? ⟨w5.heap.size, 1, none⟩ = some (.slice y1 l1 d1) ∧ W.cell? ⟨w5.heap.size, 2, none⟩ = some (.slice y2 l2 d2) ∧ W.cell? ⟨w5.heap.size, 3, none⟩ = some (.slice a9 n9 cp9))) := Lib.hid fun p W h => by
  obtain ⟨x0, x1, x2, x3, _⟩ := cellsL4 (h.block hpb hpb9)
  obtain ⟨x4, x5, x6, x7, _⟩ := cellsL4 (h.block hmb hmb9)
  exact ⟨x0, x1, x2, x3, x4, x5, x6, x7⟩
 have HRB := Lib.hid hrb
 have HLT := Lib.hid hb6
 have HT6 := Lib.hid hr6.tab
 have HBW := Lib.hid hbw
 have HBD := Lib.hid (hbw.kept (below_drew W6))
 have HW6 := Lib.hid hW6
 rw [hn9']
 generalize (o1 || ovQ m (c1 + leftQ o1 (k * c2))) = oA at *
 generalize addO m o c1 ms1 k c2 ms2 = oF at *
 generalize c1 + leftQ o1 (k * c2) = cX at *
 generalize merge ms1 (leftM o1 (scale k ms2)) = mX at *
 clear hal hmb hpb hrb hr6 hbw hb6 hp6 hm6 hmb9 hpb9 hzl hl9' hz2 hr5 hp5 hl9 hc9 hn9 hn9' ho1 HP0 hW6 HOF
 go_wp2_with (first | (with_reducible refine wpList_alloc_agg rfl 30 rfl zPoly zero_poly ?_) | (refine wpList_store_new rfl 30 (.tmp 9) (.tmp 14) (by with_reducible rfl) w5 zPoly #[.bool s9, .slice y1 l1 d1, .slice y2 l2 d2, .slice a9 n9 cp9] (by rfl) (by rfl) (by rfl) (by rw [size_poly]; rfl) (by rfl) (one_poly _ _ _ _ _ _ _ _ _ _) ?_))
 rw [← HW6.out]
 generalize hMB : w5.heap.size = MB at *
 clear hMB
 refine wp_region_ex (ι := Nat × RawR × Nat × List RM × Nat) (fun i => [(15, .pointer (some ⟨b, 0, none⟩)), (16, .pointer (some ⟨w.heap.size, 0, none⟩)), (17, .agg #[.bool ps, .slice pa pl pc, .slice pb pk pe]), (18, .pointer (some ⟨MB, 0, none⟩)), (19, .agg #[.bool s9, .slice y1 l1 d1, .slice y2 l2 d2]), (20, .agg #[.bool i.2.1.1, .slice i.2.1.2.1.1 i.2.1.2.1.2.1 i.2.1.2.1.2.2, .slice i.2.1.2.2.1 i.2.1.2.2.2.1 i.2.1.2.2.2.2]), (21, .pointer (some ⟨b, 0, none⟩)), (22, .pointer (some ⟨w.heap.size, 3, none⟩)), (23, .slice a1 n1 cp1), (24, .pointer (some ⟨MB, 3, none⟩)), (25, .slice a9 n9 cp9), (26, .slice (some ⟨i.2.2.1, 0, none⟩) (List.length i.2.2.2.1) i.2.2.2.2), (27, .agg #[.bool i.2.1.1, .slice i.2.1.2.1.1 i.2.1.2.1.2.1 i.2.1.2.1.2.2, .slice i.2.1.2.2.1 i.2.1.2.2.2.1 i.2.1.2.2.2.2, .slice (some ⟨i.2.2.1, 0, none⟩) (List.length i.2.2.2.1) i.2.2.2.2]), (10, .pointer (some ⟨i.1, 0, none⟩))]) (AddAt W6 b m oF cX mX) ?reg ?rest
 case reg =>
  refine wp_region_held_drew (S := (fun w' => w'.cell? ⟨w.heap.size, 0, none⟩ = some (.bool ps) ∧ w'.cell? ⟨w.heap.size, 1, none⟩ = some (.slice pa pl pc) ∧ w'.cell? ⟨w.heap.size, 2, none⟩ = some (.slice pb pk pe) ∧ w'.cell? ⟨w.heap.size, 3, none⟩ = some (.slice a1 n1 cp1) ∧ w'.cell? ⟨MB, 0, none⟩ = some (.bool s9) ∧ w'.cell? ⟨MB, 1, none⟩ = some (.slice y1 l1 d1) ∧ w'.cell? ⟨MB, 2, none⟩ = some (.slice y2 l2 d2) ∧ w'.cell? ⟨MB, 3, none⟩ = some (.slice a9 n9 cp9))) (by kernel_rfl) ?_ (fun hHeld => ?_)
  ·exact HK.out _ _ HBD.out
  refine tkV 0 hHeld ?_
  try simp only [Act.put, zA, zB, zC, zD, zE, zF]
  refine tkV 1 hHeld ?_
  try simp only [Act.put, zA, zB, zC, zD, zE, zF]
  refine tkV 2 hHeld ?_
  try simp only [Act.put, zA, zB, zC, zD, zE, zF]
  refine tkV 3 hHeld ?_
  try simp only [Act.put, zA, zB, zC, zD, zE, zF]
  refine tkV 4 hHeld ?_
  try simp only [Act.put, zA, zB, zC, zD, zE, zF]
  refine tkV 6 hHeld ?_
  try simp only [Act.put, zA, zB, zC, zD, zE, zF]
  refine tkV 7 hHeld ?_
  try simp only [Act.put, zA, zB, zC, zD, zE, zF]
  refine tkV 8 hHeld ?_
  try simp only [Act.put, zA, zB, zC, zD, zE, zF]
  refine tkV 9 hHeld ?_
  try simp only [Act.put, zA, zB, zC, zD, zE, zF]
  refine tkV 10 hHeld ?_
  try simp only [Act.put, zA, zB, zC, zD, zE, zF]
  refine rdy [5, 13] ?_
  refine AllReadyH.cons (by rfl) (fun K hK => ?_) ?_
  ·go_simp
   refine (HC1.out _ HBD.out).mono ?_
   rintro e w1 ⟨s8, e1, f1, g1, e2, f2, g2, rfl, hr1, hv1⟩
   have HB1 := Lib.hid (BR.trans HBD.out hr1.out)
   have HV1 := Lib.hid hv1.out
   clear hr1 hv1
   refine hK.out _ _ ?_ (fun hHeld => ?_)
   ·exact HK.out _ _ HB1.out
   clear hK K
   try simp only [Act.put, zA, zB, zC, zD, zE, zF]
   refine rdy [11, 13] ?_
   refine AllReadyH.cons (by rfl) (fun K hK => ?_) ?_
   ·go_simp
    refine (HC2.out _ HB1.out).mono ?_
    rintro e w2 ⟨G9, cp8, rs8, rfl, hr2, hm2, hl8, hc8⟩
    have HB2 := Lib.hid (BR.trans HB1.out hr2.out)
    have HV2 := Lib.hid (VQ.benchL HV1.out (BR.bench HB1.out) hr2.out.g)
    have HM2 := Lib.hid hm2.out
    have HL8 := Lib.hid (And.intro hl8 hc8)
    clear hr2 hm2 hl8 hc8
    refine hK.out _ _ ?_ (fun hHeld => ?_)
    ·exact HK.out _ _ HB2.out
    clear hK K
    try simp only [Act.put, zA, zB, zC, zD, zE, zF]
    refine tkV 12 hHeld ?_
    try simp only [Act.put, zA, zB, zC, zD, zE, zF]
    refine rdy [13] ?_
    refine AllReadyH.cons (by rfl) (fun K hK => ?_) AllReadyH.nil
    go_simp
    obtain ⟨w3, hw3⟩ : ∃ w3, w3 = w2.alloc (.cells #[.bool false, .slice none 0 0, .slice none 0 0, .slice none 0 0] 30) := ⟨_, rfl⟩
    rw [← hw3]
    have hal : Below w2.heap.size w2 w3 := by rw [hw3]; exact (Below.refl _ _).alloc (Nat.le_refl _) _
    have HV3 := Lib.hid (VQ.kept HV2.out hal)
    have HM3 := Lib.hid (fun e => (HM2.out e).kept hal)
    have HB3 := Lib.hid (BR.kept HB2.out hal)
    have HP3 : Hid (w3.heap[w2.heap.size]? = some (.cells #[.bool false, .slice none 0 0, .slice none 0 0, .slice none 0 0] 30 (0, 0))) := Lib.hid (by rw [hw3]; exact heap_alloc_new w2 _)
    have HPL3 : Hid (W6.heap.size ≤ w2.heap.size) := Lib.hid (BR.size HB2.out)
    clear hal hw3
    refine hK.out _ _ ?_ (fun hHeld => ?_)
    ·exact HK.out _ _ HB3.out
    clear hK K
    try simp only [Act.put, zA, zB, zC, zD, zE, zF]
    refine rdy [14] ?_
    refine AllReadyH.cons (by rfl) (fun K hK => ?_) AllReadyH.nil
    obtain ⟨x0, x1, x2, x3, f0, f1', f2', f3⟩ := cellsL4 HP3.out
    go_simp
    have HE := Lib.hid (add_end HB3.out HT6.out HLT.out HP3.out HPL3.out HV3.out HM3.out HL8.out.1 HL8.out.2 HOA.out)
    clear x0 x1 x2 x3 f0 f1' f2' f3
    refine hK.out _ _ ?_ (fun hHeld => ?_)
    ·exact HK.out _ _ (AddAt.r HE.out)
    clear hK K
    try simp only [Act.put, zA, zB, zC, zD, zE, zF]
    refine wpAnyH_done (by kernel_rfl) ?_ _
    refine ⟨(w2.heap.size, (s8, (e1, f1, g1), (e2, f2, g2)), (G9, rs8, cp8)), ?_, HE.out⟩
    simp only [puts, Act.put, zA, zB, zC, zD, zE, zF]
   refine AllReadyH.cons (by rfl) (fun K hK => ?_) ?_
   ·go_simp
    obtain ⟨w4, hw4⟩ : ∃ w4, w4 = w1.alloc (.cells #[.bool false, .slice none 0 0, .slice none 0 0, .slice none 0 0] 30) := ⟨_, rfl⟩
    rw [← hw4]
    have hal : Below w1.heap.size w1 w4 := by rw [hw4]; exact (Below.refl _ _).alloc (Nat.le_refl _) _
    have HV4 := Lib.hid (VQ.kept HV1.out hal)
    have HB4 := Lib.hid (BR.kept HB1.out hal)
    have HP4 : Hid (w4.heap[w1.heap.size]? = some (.cells #[.bool false, .slice none 0 0, .slice none 0 0, .slice none 0 0] 30 (0, 0))) := Lib.hid (by rw [hw4]; exact heap_alloc_new w1 _)
    have HPL4 : Hid (W6.heap.size ≤ w1.heap.size) := Lib.hid (BR.size HB1.out)
    clear hal hw4
    refine hK.out _ _ ?_ (fun hHeld => ?_)
    ·exact HK.out _ _ HB4.out
    clear hK K
    try simp only [Act.put, zA, zB, zC, zD, zE, zF]
    refine rdy [11] ?_
    refine AllReadyH.cons (by rfl) (fun K hK => ?_) AllReadyH.nil
    go_simp
    refine (HC2.out _ HB4.out).mono ?_
    rintro e w5 ⟨G9, cp8, rs8, rfl, hr5, hm5, hl8, hc8⟩
    have HP5 := Lib.hid (BR.block hr5.out HP4.out (by have := HLT.out; have := HPL4.out; omega))
    have HB5 := Lib.hid (BR.trans HB4.out hr5.out)
    have HV5 := Lib.hid (VQ.benchL HV4.out (BR.bench HB4.out) hr5.out.g)
    have HM5 := Lib.hid hm5.out
    have HL8 := Lib.hid (And.intro hl8 hc8)
    clear hr5 hm5 hl8 hc8
    refine hK.out _ _ ?_ (fun hHeld => ?_)
    ·exact HK.out _ _ HB5.out
    clear hK K
    try simp only [Act.put, zA, zB, zC, zD, zE, zF]
    refine tkV 12 hHeld ?_
    try simp only [Act.put, zA, zB, zC, zD, zE, zF]
    refine rdy [14] ?_
    refine AllReadyH.cons (by rfl) (fun K hK => ?_) AllReadyH.nil
    obtain ⟨x0, x1, x2, x3, f0, f1', f2', f3⟩ := cellsL4 HP5.out
    go_simp
    have HE := Lib.hid (add_end HB5.out HT6.out HLT.out HP5.out HPL4.out HV5.out HM5.out HL8.out.1 HL8.out.2 HOA.out)
    clear x0 x1 x2 x3 f0 f1' f2' f3
    refine hK.out _ _ ?_ (fun hHeld => ?_)
    ·exact HK.out _ _ (AddAt.r HE.out)
    clear hK K
    try simp only [Act.put, zA, zB, zC, zD, zE, zF]
    refine wpAnyH_done (by kernel_rfl) ?_ _
    refine ⟨(w1.heap.size, (s8, (e1, f1, g1), (e2, f2, g2)), (G9, rs8, cp8)), ?_, HE.out⟩
    simp only [puts, Act.put, zA, zB, zC, zD, zE, zF]
   exact AllReadyH.nil
  refine AllReadyH.cons (by rfl) (fun K hK => ?_) ?_
  ·go_simp
   obtain ⟨w6, hw6⟩ : ∃ w6, w6 = (W6.alloc (.cells #[.bool false, .slice none 0 0, .slice none 0 0, .slice none 0 0] 30)).drew := ⟨_, rfl⟩
   rw [← hw6]
   have hal : Below W6.heap.size W6 w6 := by rw [hw6]; exact ((Below.refl _ _).alloc (Nat.le_refl _) _).drew
   have HB6 := Lib.hid (BR.kept HBW.out hal)
   have HP6 : Hid (w6.heap[W6.heap.size]? = some (.cells #[.bool false, .slice none 0 0, .slice none 0 0, .slice none 0 0] 30 (0, 0))) := Lib.hid (by rw [hw6]; exact heap_alloc_new W6 _)
   have HPL6 : Hid (W6.heap.size ≤ W6.heap.size) := Lib.hid (Nat.le_refl _)
   clear hal hw6
   refine hK.out _ _ ?_ (fun hHeld => ?_)
   ·exact HK.out _ _ HB6.out
   clear hK K
   try simp only [Act.put, zA, zB, zC, zD, zE, zF]
   refine rdy [5] ?_
   refine AllReadyH.cons (by rfl) (fun K hK => ?_) AllReadyH.nil
   go_simp
   refine (HC1.out _ HB6.out).mono ?_
   rintro e w7 ⟨s8, e1, f1, g1, e2, f2, g2, rfl, hr7, hv7⟩
   have HP7 := Lib.hid (BR.block hr7.out HP6.out (by have := HLT.out; have := HPL6.out; omega))
   have HB7 := Lib.hid (BR.trans HB6.out hr7.out)
   have HV7 := Lib.hid hv7.out
   clear hr7 hv7
   refine hK.out _ _ ?_ (fun hHeld => ?_)
   ·exact HK.out _ _ HB7.out
   clear hK K
   try simp only [Act.put, zA, zB, zC, zD, zE, zF]
   refine rdy [11] ?_
   refine AllReadyH.cons (by rfl) (fun K hK => ?_) AllReadyH.nil
   go_simp
   refine (HC2.out _ HB7.out).mono ?_
   rintro e w8 ⟨G9, cp8, rs8, rfl, hr8, hm8, hl8, hc8⟩
   have HP8 := Lib.hid (BR.block hr8.out HP7.out (by have := HLT.out; have := HPL6.out; omega))
   have HB8 := Lib.hid (BR.trans HB7.out hr8.out)
   have HV8 := Lib.hid (VQ.benchL HV7.out (BR.bench HB7.out) hr8.out.g)
   have HM8 := Lib.hid hm8.out
   have HL8 := Lib.hid (And.intro hl8 hc8)
   clear hr8 hm8 hl8 hc8
   refine hK.out _ _ ?_ (fun hHeld => ?_)
   ·exact HK.out _ _ HB8.out
   clear hK K
   try simp only [Act.put, zA, zB, zC, zD, zE, zF]
   refine tkV 12 hHeld ?_
   try simp only [Act.put, zA, zB, zC, zD, zE, zF]
   refine rdy [14] ?_
   refine AllReadyH.cons (by rfl) (fun K hK => ?_) AllReadyH.nil
   obtain ⟨x0, x1, x2, x3, f0, f1', f2', f3⟩ := cellsL4 HP8.out
   go_simp
   have HE := Lib.hid (add_end HB8.out HT6.out HLT.out HP8.out HPL6.out HV8.out HM8.out HL8.out.1 HL8.out.2 HOA.out)
   clear x0 x1 x2 x3 f0 f1' f2' f3
   refine hK.out _ _ ?_ (fun hHeld => ?_)
   ·exact HK.out _ _ (AddAt.r HE.out)
   clear hK K
   try simp only [Act.put, zA, zB, zC, zD, zE, zF]
   refine wpAnyH_done (by kernel_rfl) ?_ _
   refine ⟨(W6.heap.size, (s8, (e1, f1, g1), (e2, f2, g2)), (G9, rs8, cp8)), ?_, HE.out⟩
   simp only [puts, Act.put, zA, zB, zC, zD, zE, zF]
  exact AllReadyH.nil
 rintro ⟨P, ⟨s8, ⟨e1, f1, g1⟩, ⟨e2, f2, g2⟩⟩, G9, rs8, cp8⟩ w8 hS
 simp only [puts, Act.put, zA, zB, zC, zD, zE, zF]
 have HS := Lib.hid hS
 have HOV := Lib.hid (gotO_over hS.r.self)
 clear hS HC1 HC2
 go_wp2_with fail
 refine HOV.out.mono ?_
 rintro e w13 ⟨rfl, hr13⟩
 have hR13 := HWR.out.trans (HS.out.r.trans hr13.out)
 have hz13 := (HS.out.r.trans hr13.out).block HRB.out (by have := HBLK.out.2.2.2.2.2; omega)
 have hb13 := hr13.out.block HS.out.blk (by have := HS.out.ge; have := HLT.out; dsimp only at *; omega)
 obtain ⟨q0, q1, q2, q3, n0, n1', n2, n3⟩ := cellsL4 hz13
 cases oF
 ·obtain ⟨ex1, ex2⟩ := HEX.out rfl
  have hp13 := (HS.out.poly rfl).bench HS.out.r.bench hr13.out
  rw [ex1, ex2] at hp13
  have HE := Lib.hid (fin_poly2 hR13 HBLK.out.2.2.2.2.1 HBLK.out.2.2.2.2.2 (show w.heap.size ≤ w.heap.size + 1 + 1 + 1 by omega) hz13 hp13 HS.out.le HS.out.max (by intro e; cases e))
  obtain ⟨r0, r1, r2, r3, _⟩ := cellsL4 hb13
  dsimp only at r0 r1 r2 r3
  clear hR13 hz13 hb13 hp13 hr13 HOV HS ex1 ex2
  go_wp2_with fail
  exact bodyPost_ret (v := .agg #[.bool s8, .slice e1 f1 g1, .slice e2 f2 g2, .slice (some ⟨G9, 0, none⟩) rs8.length cp8]) (by simp [results, Tryz.results16, go_sem, q0, q1, q2, q3]) rfl HE.out
 ·have HE := Lib.hid (fin_zero2 (c := c1 + k * c2) (ms := merge ms1 (scale k ms2)) hR13 HBLK.out.2.2.2.2.1 HBLK.out.2.2.2.2.2 (show w.heap.size ≤ w.heap.size + 1 + 1 + 1 by omega))
  clear hR13 hz13 hb13 hr13 HOV HS
  go_wp2_with fail
  exact bodyPost_ret (v := .agg #[.bool false, .slice none 0 0, .slice none 0 0, .slice none 0 0]) (by simp [results, Tryz.results16, go_sem, q0, q1, q2, q3]) rfl HE.out
end Go.Proofs.YtpjeecahaeaajaaGreatDoor
