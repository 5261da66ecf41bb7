/- By program out of: EvValue, EvNew. -/
import Derived.Test.YthnklohpmcebkaaGreatDoorMaaboeb
import Derived.Test.YthnklohpmcebkaaGreatDoorMlkejbp
import Derived.Test.YthnklohpmcebkaaGreatDoorMdddggp
import Derived.Test.YthnklohpmcebkaaGreatDoorMkeimog
set_option linter.unusedVariables false
set_option linter.unusedSimpArgs false
namespace Go.Proofs.YthnklohpmcebkaaGreatDoor
open Go.RowKit Tm Rep Ev
theorem vq_zero10 (W : World) : VQ 0 (false, (none, 0, 0), (none, 0, 0)) W := ⟨by decide, rfl, rfl, AtQ.zero W⟩
theorem val_end {b m B : Nat} {W w3 : World} {d : RV} {v : Vl} (hroom : RoomM b m W w3) (hvb : VB w3 B zRV.cells) (hB : W.heap.size ≤ B) (hbb : B ≠ b) (hok : d.ok v w3) :
    w3.there B 0 4 ∧ (w3.setCells B 0 d.cells).rangeAt B 0 d.cells ∧ GotF b m W v (.returned (.agg #[.bool d.t, .bool d.s, .slice d.z1 d.m1 d.k1, .slice d.z2 d.m2 d.k2])) (w3.setCells B 0 d.cells) := by
  have hni := noInt_of hvb (good_cells zRV)
  have hch : Chg (fun j => j = B) w3 (w3.setCells B 0 d.cells) := chg_setCells (S := fun j => j = B) rfl _ _ _
  exact ⟨there_of_block hvb (by simp [RV.cells]), range_of_block (hvb.put rfl d), ⟨d, rfl, Lib.hid (hroom.chg hch hB hbb hni), Lib.hid (hok.past hni hch)⟩⟩
section
variable {W : World} {E : Env} {vs : List Vl} {rs : List RV} {ka : Option Addr} {kids : List Int} {kc : Nat}
theorem RkAt.bl (h : RkAt W E vs rs) : E.b < W.heap.size := by
  have := h.bench
  unfold Bench at this
  exact (Array.getElem?_eq_some_iff.1 this).1
theorem RkAt.roomB (h : RkAt W E vs rs) {W' : World} (hb : Below W.heap.size W W') : RoomM E.b E.m W W' := RoomM.of_below hb h.bench h.tab
set_option maxRecDepth 100000 in
set_option maxHeartbeats 8000000 in
theorem difference_any (h : RkAt W E vs rs) (hk : KAt W ka kids kc) (hkb : ∀ g off, ka = some ⟨g, off, none⟩ → g ≠ E.b) (h2 : 2 ≤ kids.length) (hin : ∀ x ∈ kids, 0 ≤ x ∧ x < (vs.length : Int)) (hs : ∀ v ∈ vs, szQ v.2 ≤ 48)
    (hsm : FoldSm E.m (fun x y => x - y) vs (numOf vs (kid kids 0)) (kids.drop 1)) :
    Calls Tryz.prog 43 #[.pointer (some ⟨E.R, 0, none⟩), .slice ka kids.length kc] W (GotF E.b E.m W (false, Ev.fold (fun x y => x - y) vs (numOf vs (kid kids 0)) (kids.drop 1))) := by
  obtain ⟨W2, hW2⟩ : ∃ W2, W2 = W.alloc (.cells #[.bool false, .bool false, .slice none 0 0, .slice none 0 0] 52) := ⟨_, rfl⟩
  have hb2 : Below W.heap.size W W2 := by rw [hW2]; exact (Below.refl _ _).alloc (Nat.le_refl _) _
  have hvb : VB W2 W.heap.size zRV.cells := by rw [hW2]; exact heap_alloc_new W _
  have HF := Lib.hid (fold_any (h.kept hb2) (hk.kept hb2) hkb h2 hin hs (sub_fn E.b E.m) hsm)
  have H0 := Lib.hid (And.intro (h.roomB hb2) (And.intro hvb h.bl))
  have hlen : ((kids.length : Int) == 1) = false := by simp; omega
  have hlen2 : ¬ (kids.length : Int) = 1 := by omega
  have hlen3 : ¬ kids.length = 1 := by omega
  generalize Ev.fold (fun x y => x - y) vs (numOf vs (kid kids 0)) (kids.drop 1) = res at *
  generalize kids.length = n at *
  clear h hk hkb h2 hin hs hsm hb2 hvb
  go_enter Tryz.func43, Tryz.ntmps43
  go_wp2_with fail
  rw [show (W.alloc (Obj.cells #[.bool false, .bool false, .slice none 0 0, .slice none 0 0] 52)) = W2 from hW2.symm]
  clear hW2
  refine HF.out.mono ?_
  rintro e w3 ⟨d, rfl, R3, K3⟩
  have hv3 := block_room H0.out.2.1 R3.out (by have := H0.out.2.2; omega)
  obtain ⟨hth, hrg, hfin⟩ := val_end (H0.out.1.trans R3.out) hv3 (Nat.le_refl _) (by have := H0.out.2.2; omega) K3.out
  have HFIN := Lib.hid hfin
  clear hfin hv3 R3 K3
  go_wp2_with (refine wpList_store_mid rfl 52 (.tmp 4) (.tmp 22) rfl W.heap.size 0 d.cells.toArray rfl rfl hth (by rw [size_value]; rfl) (one_cells d) ?_)
  refine bodyPost_ret (v := .agg #[.bool d.t, .bool d.s, .slice d.z1 d.m1 d.k1, .slice d.z2 d.m2 d.k2]) ?_ rfl HFIN.out
  have := run_loadVar_mid (P := Tryz.prog) _ W.heap.size 0 52 d.cells _ hrg Tryz.underlying52 rfl (by rw [size_value]; rfl)
  simpa [results, Tryz.results43, asAddr, Act.put, RV.cells] using this
set_option maxRecDepth 100000 in
set_option maxHeartbeats 8000000 in
theorem value_t1 (h : RkAt W E vs rs) {v : Int} {s : Bool} {a1 : Option Addr} {l1 c1 : Nat} {a2 : Option Addr} {l2 c2 : Nat} {res : Bool}
    (ht : ∀ W', Below W.heap.size W W' → Calls Tryz.prog 46 #[.pointer (some ⟨E.R, 0, none⟩), .agg #[.int .i64 1, .int .i64 v, .slice ka kids.length kc, .bool s, .slice a1 l1 c1, .slice a2 l2 c2]] W' (GivesV (.bool res) W')) :
    Calls Tryz.prog 26 #[.pointer (some ⟨E.R, 0, none⟩), .agg #[.int .i64 1, .int .i64 v, .slice ka kids.length kc, .bool s, .slice a1 l1 c1, .slice a2 l2 c2]] W (GotF E.b E.m W (res, 0)) := by
  obtain ⟨W2, hW2, hb2, b1, b2, hs2⟩ := boxes2 W #[.int .i64 1, .int .i64 v, .slice ka kids.length kc, .bool s, .slice a1 l1 c1, .slice a2 l2 c2] #[.bool false, .bool false, .slice none 0 0, .slice none 0 0] 33 52
  have hvb : VB W2 (W.heap.size + 1) zRV.cells := b2
  have H0 := Lib.hid (And.intro (h.roomB hb2) (And.intro hvb (And.intro h.bl (And.intro h.bench h.tab))))
  have HT := Lib.hid (ht W2 hb2)
  have hnr : W2.rangeAt W.heap.size 0 [.int .i64 1, .int .i64 v, .slice ka kids.length kc, .bool s, .slice a1 l1 c1, .slice a2 l2 c2] := range_of_block b1
  have HB2 := Lib.hid hb2
  clear h ht hb2 b1 b2 hs2 hvb
  go_enter Tryz.func26, Tryz.ntmps26
  go_wp2_with fail
  rw [← hW2]
  clear hW2
  go_wp2_with (refine wpList_val (.agg #[.int .i64 1, .int .i64 v, .slice ka kids.length kc, .bool s, .slice a1 l1 c1, .slice a2 l2 c2]) (run_load_op 33 (.tmp 3) (by with_reducible rfl) W.heap.size 0 (by rfl) _ _ hnr Tryz.underlying33 rfl (by rw [size_node]; rfl)) (by rfl) ?_)
  refine HT.out.mono ?_
  rintro e w3 ⟨rfl, hb3⟩
  have hv3 := block_kept H0.out.2.1 hb3
  obtain ⟨hth, hrg, hfin⟩ := val_end (d := ⟨res, false, none, 0, 0, none, 0, 0⟩) (v := (res, 0)) (H0.out.1.kept hb3) hv3 (by omega) (by have := H0.out.2.2.1; omega) ⟨rfl, vq_zero10 _⟩
  have HFIN := Lib.hid hfin
  clear hfin hv3 hb3 hnr
  go_wp2_with (refine wpList_store_mid rfl 52 (.tmp 4) (.tmp 58) rfl (W.heap.size + 1) 0 (RV.cells ⟨res, false, none, 0, 0, none, 0, 0⟩).toArray rfl rfl hth (by rw [size_value]; rfl) (one_cells _) ?_)
  refine bodyPost_ret (v := .agg #[.bool res, .bool false, .slice none 0 0, .slice none 0 0]) ?_ rfl HFIN.out
  have := run_loadVar_mid (P := Tryz.prog) _ (W.heap.size + 1) 0 52 _ _ hrg Tryz.underlying52 rfl (by rw [size_value]; rfl)
  simpa [results, Tryz.results26, asAddr, Act.put, RV.cells] using this
set_option maxRecDepth 100000 in
set_option maxHeartbeats 8000000 in
theorem value_t2 (h : RkAt W E vs rs) {v : Int} {s : Bool} {a1 : Option Addr} {l1 c1 : Nat} {a2 : Option Addr} {l2 c2 : Nat} {res : Bool}
    (ht : ∀ W', Below W.heap.size W W' → Calls Tryz.prog 46 #[.pointer (some ⟨E.R, 0, none⟩), .agg #[.int .i64 2, .int .i64 v, .slice ka kids.length kc, .bool s, .slice a1 l1 c1, .slice a2 l2 c2]] W' (GivesV (.bool res) W')) :
    Calls Tryz.prog 26 #[.pointer (some ⟨E.R, 0, none⟩), .agg #[.int .i64 2, .int .i64 v, .slice ka kids.length kc, .bool s, .slice a1 l1 c1, .slice a2 l2 c2]] W (GotF E.b E.m W (res, 0)) := by
  obtain ⟨W2, hW2, hb2, b1, b2, hs2⟩ := boxes2 W #[.int .i64 2, .int .i64 v, .slice ka kids.length kc, .bool s, .slice a1 l1 c1, .slice a2 l2 c2] #[.bool false, .bool false, .slice none 0 0, .slice none 0 0] 33 52
  have hvb : VB W2 (W.heap.size + 1) zRV.cells := b2
  have H0 := Lib.hid (And.intro (h.roomB hb2) (And.intro hvb (And.intro h.bl (And.intro h.bench h.tab))))
  have HT := Lib.hid (ht W2 hb2)
  have hnr : W2.rangeAt W.heap.size 0 [.int .i64 2, .int .i64 v, .slice ka kids.length kc, .bool s, .slice a1 l1 c1, .slice a2 l2 c2] := range_of_block b1
  have HB2 := Lib.hid hb2
  clear h ht hb2 b1 b2 hs2 hvb
  go_enter Tryz.func26, Tryz.ntmps26
  go_wp2_with fail
  rw [← hW2]
  clear hW2
  go_wp2_with (refine wpList_val (.agg #[.int .i64 2, .int .i64 v, .slice ka kids.length kc, .bool s, .slice a1 l1 c1, .slice a2 l2 c2]) (run_load_op 33 (.tmp 3) (by with_reducible rfl) W.heap.size 0 (by rfl) _ _ hnr Tryz.underlying33 rfl (by rw [size_node]; rfl)) (by rfl) ?_)
  refine HT.out.mono ?_
  rintro e w3 ⟨rfl, hb3⟩
  have hv3 := block_kept H0.out.2.1 hb3
  obtain ⟨hth, hrg, hfin⟩ := val_end (d := ⟨res, false, none, 0, 0, none, 0, 0⟩) (v := (res, 0)) (H0.out.1.kept hb3) hv3 (by omega) (by have := H0.out.2.2.1; omega) ⟨rfl, vq_zero10 _⟩
  have HFIN := Lib.hid hfin
  clear hfin hv3 hb3 hnr
  go_wp2_with (refine wpList_store_mid rfl 52 (.tmp 4) (.tmp 58) rfl (W.heap.size + 1) 0 (RV.cells ⟨res, false, none, 0, 0, none, 0, 0⟩).toArray rfl rfl hth (by rw [size_value]; rfl) (one_cells _) ?_)
  refine bodyPost_ret (v := .agg #[.bool res, .bool false, .slice none 0 0, .slice none 0 0]) ?_ rfl HFIN.out
  have := run_loadVar_mid (P := Tryz.prog) _ (W.heap.size + 1) 0 52 _ _ hrg Tryz.underlying52 rfl (by rw [size_value]; rfl)
  simpa [results, Tryz.results26, asAddr, Act.put, RV.cells] using this
set_option maxRecDepth 100000 in
set_option maxHeartbeats 8000000 in
theorem value_t3 (h : RkAt W E vs rs) {v : Int} {s : Bool} {a1 : Option Addr} {l1 c1 : Nat} {a2 : Option Addr} {l2 c2 : Nat} {res : Bool}
    (ht : ∀ W', Below W.heap.size W W' → Calls Tryz.prog 46 #[.pointer (some ⟨E.R, 0, none⟩), .agg #[.int .i64 3, .int .i64 v, .slice ka kids.length kc, .bool s, .slice a1 l1 c1, .slice a2 l2 c2]] W' (GivesV (.bool res) W')) :
    Calls Tryz.prog 26 #[.pointer (some ⟨E.R, 0, none⟩), .agg #[.int .i64 3, .int .i64 v, .slice ka kids.length kc, .bool s, .slice a1 l1 c1, .slice a2 l2 c2]] W (GotF E.b E.m W (res, 0)) := by
  obtain ⟨W2, hW2, hb2, b1, b2, hs2⟩ := boxes2 W #[.int .i64 3, .int .i64 v, .slice ka kids.length kc, .bool s, .slice a1 l1 c1, .slice a2 l2 c2] #[.bool false, .bool false, .slice none 0 0, .slice none 0 0] 33 52
  have hvb : VB W2 (W.heap.size + 1) zRV.cells := b2
  have H0 := Lib.hid (And.intro (h.roomB hb2) (And.intro hvb (And.intro h.bl (And.intro h.bench h.tab))))
  have HT := Lib.hid (ht W2 hb2)
  have hnr : W2.rangeAt W.heap.size 0 [.int .i64 3, .int .i64 v, .slice ka kids.length kc, .bool s, .slice a1 l1 c1, .slice a2 l2 c2] := range_of_block b1
  have HB2 := Lib.hid hb2
  clear h ht hb2 b1 b2 hs2 hvb
  go_enter Tryz.func26, Tryz.ntmps26
  go_wp2_with fail
  rw [← hW2]
  clear hW2
  go_wp2_with (refine wpList_val (.agg #[.int .i64 3, .int .i64 v, .slice ka kids.length kc, .bool s, .slice a1 l1 c1, .slice a2 l2 c2]) (run_load_op 33 (.tmp 3) (by with_reducible rfl) W.heap.size 0 (by rfl) _ _ hnr Tryz.underlying33 rfl (by rw [size_node]; rfl)) (by rfl) ?_)
  refine HT.out.mono ?_
  rintro e w3 ⟨rfl, hb3⟩
  have hv3 := block_kept H0.out.2.1 hb3
  obtain ⟨hth, hrg, hfin⟩ := val_end (d := ⟨res, false, none, 0, 0, none, 0, 0⟩) (v := (res, 0)) (H0.out.1.kept hb3) hv3 (by omega) (by have := H0.out.2.2.1; omega) ⟨rfl, vq_zero10 _⟩
  have HFIN := Lib.hid hfin
  clear hfin hv3 hb3 hnr
  go_wp2_with (refine wpList_store_mid rfl 52 (.tmp 4) (.tmp 58) rfl (W.heap.size + 1) 0 (RV.cells ⟨res, false, none, 0, 0, none, 0, 0⟩).toArray rfl rfl hth (by rw [size_value]; rfl) (one_cells _) ?_)
  refine bodyPost_ret (v := .agg #[.bool res, .bool false, .slice none 0 0, .slice none 0 0]) ?_ rfl HFIN.out
  have := run_loadVar_mid (P := Tryz.prog) _ (W.heap.size + 1) 0 52 _ _ hrg Tryz.underlying52 rfl (by rw [size_value]; rfl)
  simpa [results, Tryz.results26, asAddr, Act.put, RV.cells] using this
set_option maxRecDepth 100000 in
set_option maxHeartbeats 8000000 in
theorem value_t6 (h : RkAt W E vs rs) {v : Int} {s : Bool} {a1 : Option Addr} {l1 c1 : Nat} {a2 : Option Addr} {l2 c2 : Nat} {res : Bool}
    (ht : ∀ W', Below W.heap.size W W' → Calls Tryz.prog 46 #[.pointer (some ⟨E.R, 0, none⟩), .agg #[.int .i64 6, .int .i64 v, .slice ka kids.length kc, .bool s, .slice a1 l1 c1, .slice a2 l2 c2]] W' (GivesV (.bool res) W')) :
    Calls Tryz.prog 26 #[.pointer (some ⟨E.R, 0, none⟩), .agg #[.int .i64 6, .int .i64 v, .slice ka kids.length kc, .bool s, .slice a1 l1 c1, .slice a2 l2 c2]] W (GotF E.b E.m W (res, 0)) := by
  obtain ⟨W2, hW2, hb2, b1, b2, hs2⟩ := boxes2 W #[.int .i64 6, .int .i64 v, .slice ka kids.length kc, .bool s, .slice a1 l1 c1, .slice a2 l2 c2] #[.bool false, .bool false, .slice none 0 0, .slice none 0 0] 33 52
  have hvb : VB W2 (W.heap.size + 1) zRV.cells := b2
  have H0 := Lib.hid (And.intro (h.roomB hb2) (And.intro hvb (And.intro h.bl (And.intro h.bench h.tab))))
  have HT := Lib.hid (ht W2 hb2)
  have hnr : W2.rangeAt W.heap.size 0 [.int .i64 6, .int .i64 v, .slice ka kids.length kc, .bool s, .slice a1 l1 c1, .slice a2 l2 c2] := range_of_block b1
  have HB2 := Lib.hid hb2
  clear h ht hb2 b1 b2 hs2 hvb
  go_enter Tryz.func26, Tryz.ntmps26
  go_wp2_with fail
  rw [← hW2]
  clear hW2
  go_wp2_with (refine wpList_val (.agg #[.int .i64 6, .int .i64 v, .slice ka kids.length kc, .bool s, .slice a1 l1 c1, .slice a2 l2 c2]) (run_load_op 33 (.tmp 3) (by with_reducible rfl) W.heap.size 0 (by rfl) _ _ hnr Tryz.underlying33 rfl (by rw [size_node]; rfl)) (by rfl) ?_)
  refine HT.out.mono ?_
  rintro e w3 ⟨rfl, hb3⟩
  have hv3 := block_kept H0.out.2.1 hb3
  obtain ⟨hth, hrg, hfin⟩ := val_end (d := ⟨res, false, none, 0, 0, none, 0, 0⟩) (v := (res, 0)) (H0.out.1.kept hb3) hv3 (by omega) (by have := H0.out.2.2.1; omega) ⟨rfl, vq_zero10 _⟩
  have HFIN := Lib.hid hfin
  clear hfin hv3 hb3 hnr
  go_wp2_with (refine wpList_store_mid rfl 52 (.tmp 4) (.tmp 58) rfl (W.heap.size + 1) 0 (RV.cells ⟨res, false, none, 0, 0, none, 0, 0⟩).toArray rfl rfl hth (by rw [size_value]; rfl) (one_cells _) ?_)
  refine bodyPost_ret (v := .agg #[.bool res, .bool false, .slice none 0 0, .slice none 0 0]) ?_ rfl HFIN.out
  have := run_loadVar_mid (P := Tryz.prog) _ (W.heap.size + 1) 0 52 _ _ hrg Tryz.underlying52 rfl (by rw [size_value]; rfl)
  simpa [results, Tryz.results26, asAddr, Act.put, RV.cells] using this
set_option maxRecDepth 100000 in
set_option maxHeartbeats 8000000 in
theorem value_t7 (h : RkAt W E vs rs) {v : Int} {s : Bool} {a1 : Option Addr} {l1 c1 : Nat} {a2 : Option Addr} {l2 c2 : Nat} {res : Bool}
    (ht : ∀ W', Below W.heap.size W W' → Calls Tryz.prog 46 #[.pointer (some ⟨E.R, 0, none⟩), .agg #[.int .i64 7, .int .i64 v, .slice ka kids.length kc, .bool s, .slice a1 l1 c1, .slice a2 l2 c2]] W' (GivesV (.bool res) W')) :
    Calls Tryz.prog 26 #[.pointer (some ⟨E.R, 0, none⟩), .agg #[.int .i64 7, .int .i64 v, .slice ka kids.length kc, .bool s, .slice a1 l1 c1, .slice a2 l2 c2]] W (GotF E.b E.m W (res, 0)) := by
  obtain ⟨W2, hW2, hb2, b1, b2, hs2⟩ := boxes2 W #[.int .i64 7, .int .i64 v, .slice ka kids.length kc, .bool s, .slice a1 l1 c1, .slice a2 l2 c2] #[.bool false, .bool false, .slice none 0 0, .slice none 0 0] 33 52
  have hvb : VB W2 (W.heap.size + 1) zRV.cells := b2
  have H0 := Lib.hid (And.intro (h.roomB hb2) (And.intro hvb (And.intro h.bl (And.intro h.bench h.tab))))
  have HT := Lib.hid (ht W2 hb2)
  have hnr : W2.rangeAt W.heap.size 0 [.int .i64 7, .int .i64 v, .slice ka kids.length kc, .bool s, .slice a1 l1 c1, .slice a2 l2 c2] := range_of_block b1
  have HB2 := Lib.hid hb2
  clear h ht hb2 b1 b2 hs2 hvb
  go_enter Tryz.func26, Tryz.ntmps26
  go_wp2_with fail
  rw [← hW2]
  clear hW2
  go_wp2_with (refine wpList_val (.agg #[.int .i64 7, .int .i64 v, .slice ka kids.length kc, .bool s, .slice a1 l1 c1, .slice a2 l2 c2]) (run_load_op 33 (.tmp 3) (by with_reducible rfl) W.heap.size 0 (by rfl) _ _ hnr Tryz.underlying33 rfl (by rw [size_node]; rfl)) (by rfl) ?_)
  refine HT.out.mono ?_
  rintro e w3 ⟨rfl, hb3⟩
  have hv3 := block_kept H0.out.2.1 hb3
  obtain ⟨hth, hrg, hfin⟩ := val_end (d := ⟨res, false, none, 0, 0, none, 0, 0⟩) (v := (res, 0)) (H0.out.1.kept hb3) hv3 (by omega) (by have := H0.out.2.2.1; omega) ⟨rfl, vq_zero10 _⟩
  have HFIN := Lib.hid hfin
  clear hfin hv3 hb3 hnr
  go_wp2_with (refine wpList_store_mid rfl 52 (.tmp 4) (.tmp 58) rfl (W.heap.size + 1) 0 (RV.cells ⟨res, false, none, 0, 0, none, 0, 0⟩).toArray rfl rfl hth (by rw [size_value]; rfl) (one_cells _) ?_)
  refine bodyPost_ret (v := .agg #[.bool res, .bool false, .slice none 0 0, .slice none 0 0]) ?_ rfl HFIN.out
  have := run_loadVar_mid (P := Tryz.prog) _ (W.heap.size + 1) 0 52 _ _ hrg Tryz.underlying52 rfl (by rw [size_value]; rfl)
  simpa [results, Tryz.results26, asAddr, Act.put, RV.cells] using this
set_option maxRecDepth 100000 in
set_option maxHeartbeats 8000000 in
theorem value_t8 (h : RkAt W E vs rs) {v : Int} {s : Bool} {a1 : Option Addr} {l1 c1 : Nat} {a2 : Option Addr} {l2 c2 : Nat} {res : Bool}
    (ht : ∀ W', Below W.heap.size W W' → Calls Tryz.prog 46 #[.pointer (some ⟨E.R, 0, none⟩), .agg #[.int .i64 8, .int .i64 v, .slice ka kids.length kc, .bool s, .slice a1 l1 c1, .slice a2 l2 c2]] W' (GivesV (.bool res) W')) :
    Calls Tryz.prog 26 #[.pointer (some ⟨E.R, 0, none⟩), .agg #[.int .i64 8, .int .i64 v, .slice ka kids.length kc, .bool s, .slice a1 l1 c1, .slice a2 l2 c2]] W (GotF E.b E.m W (res, 0)) := by
  obtain ⟨W2, hW2, hb2, b1, b2, hs2⟩ := boxes2 W #[.int .i64 8, .int .i64 v, .slice ka kids.length kc, .bool s, .slice a1 l1 c1, .slice a2 l2 c2] #[.bool false, .bool false, .slice none 0 0, .slice none 0 0] 33 52
  have hvb : VB W2 (W.heap.size + 1) zRV.cells := b2
  have H0 := Lib.hid (And.intro (h.roomB hb2) (And.intro hvb (And.intro h.bl (And.intro h.bench h.tab))))
  have HT := Lib.hid (ht W2 hb2)
  have hnr : W2.rangeAt W.heap.size 0 [.int .i64 8, .int .i64 v, .slice ka kids.length kc, .bool s, .slice a1 l1 c1, .slice a2 l2 c2] := range_of_block b1
  have HB2 := Lib.hid hb2
  clear h ht hb2 b1 b2 hs2 hvb
  go_enter Tryz.func26, Tryz.ntmps26
  go_wp2_with fail
  rw [← hW2]
  clear hW2
  go_wp2_with (refine wpList_val (.agg #[.int .i64 8, .int .i64 v, .slice ka kids.length kc, .bool s, .slice a1 l1 c1, .slice a2 l2 c2]) (run_load_op 33 (.tmp 3) (by with_reducible rfl) W.heap.size 0 (by rfl) _ _ hnr Tryz.underlying33 rfl (by rw [size_node]; rfl)) (by rfl) ?_)
  refine HT.out.mono ?_
  rintro e w3 ⟨rfl, hb3⟩
  have hv3 := block_kept H0.out.2.1 hb3
  obtain ⟨hth, hrg, hfin⟩ := val_end (d := ⟨res, false, none, 0, 0, none, 0, 0⟩) (v := (res, 0)) (H0.out.1.kept hb3) hv3 (by omega) (by have := H0.out.2.2.1; omega) ⟨rfl, vq_zero10 _⟩
  have HFIN := Lib.hid hfin
  clear hfin hv3 hb3 hnr
  go_wp2_with (refine wpList_store_mid rfl 52 (.tmp 4) (.tmp 58) rfl (W.heap.size + 1) 0 (RV.cells ⟨res, false, none, 0, 0, none, 0, 0⟩).toArray rfl rfl hth (by rw [size_value]; rfl) (one_cells _) ?_)
  refine bodyPost_ret (v := .agg #[.bool res, .bool false, .slice none 0 0, .slice none 0 0]) ?_ rfl HFIN.out
  have := run_loadVar_mid (P := Tryz.prog) _ (W.heap.size + 1) 0 52 _ _ hrg Tryz.underlying52 rfl (by rw [size_value]; rfl)
  simpa [results, Tryz.results26, asAddr, Act.put, RV.cells] using this
set_option maxRecDepth 100000 in
set_option maxHeartbeats 8000000 in
theorem value_t9 (h : RkAt W E vs rs) {v : Int} {s : Bool} {a1 : Option Addr} {l1 c1 : Nat} {a2 : Option Addr} {l2 c2 : Nat} {res : Bool}
    (ht : ∀ W', Below W.heap.size W W' → Calls Tryz.prog 46 #[.pointer (some ⟨E.R, 0, none⟩), .agg #[.int .i64 9, .int .i64 v, .slice ka kids.length kc, .bool s, .slice a1 l1 c1, .slice a2 l2 c2]] W' (GivesV (.bool res) W')) :
    Calls Tryz.prog 26 #[.pointer (some ⟨E.R, 0, none⟩), .agg #[.int .i64 9, .int .i64 v, .slice ka kids.length kc, .bool s, .slice a1 l1 c1, .slice a2 l2 c2]] W (GotF E.b E.m W (res, 0)) := by
  obtain ⟨W2, hW2, hb2, b1, b2, hs2⟩ := boxes2 W #[.int .i64 9, .int .i64 v, .slice ka kids.length kc, .bool s, .slice a1 l1 c1, .slice a2 l2 c2] #[.bool false, .bool false, .slice none 0 0, .slice none 0 0] 33 52
  have hvb : VB W2 (W.heap.size + 1) zRV.cells := b2
  have H0 := Lib.hid (And.intro (h.roomB hb2) (And.intro hvb (And.intro h.bl (And.intro h.bench h.tab))))
  have HT := Lib.hid (ht W2 hb2)
  have hnr : W2.rangeAt W.heap.size 0 [.int .i64 9, .int .i64 v, .slice ka kids.length kc, .bool s, .slice a1 l1 c1, .slice a2 l2 c2] := range_of_block b1
  have HB2 := Lib.hid hb2
  clear h ht hb2 b1 b2 hs2 hvb
  go_enter Tryz.func26, Tryz.ntmps26
  go_wp2_with fail
  rw [← hW2]
  clear hW2
  go_wp2_with (refine wpList_val (.agg #[.int .i64 9, .int .i64 v, .slice ka kids.length kc, .bool s, .slice a1 l1 c1, .slice a2 l2 c2]) (run_load_op 33 (.tmp 3) (by with_reducible rfl) W.heap.size 0 (by rfl) _ _ hnr Tryz.underlying33 rfl (by rw [size_node]; rfl)) (by rfl) ?_)
  refine HT.out.mono ?_
  rintro e w3 ⟨rfl, hb3⟩
  have hv3 := block_kept H0.out.2.1 hb3
  obtain ⟨hth, hrg, hfin⟩ := val_end (d := ⟨res, false, none, 0, 0, none, 0, 0⟩) (v := (res, 0)) (H0.out.1.kept hb3) hv3 (by omega) (by have := H0.out.2.2.1; omega) ⟨rfl, vq_zero10 _⟩
  have HFIN := Lib.hid hfin
  clear hfin hv3 hb3 hnr
  go_wp2_with (refine wpList_store_mid rfl 52 (.tmp 4) (.tmp 58) rfl (W.heap.size + 1) 0 (RV.cells ⟨res, false, none, 0, 0, none, 0, 0⟩).toArray rfl rfl hth (by rw [size_value]; rfl) (one_cells _) ?_)
  refine bodyPost_ret (v := .agg #[.bool res, .bool false, .slice none 0 0, .slice none 0 0]) ?_ rfl HFIN.out
  have := run_loadVar_mid (P := Tryz.prog) _ (W.heap.size + 1) 0 52 _ _ hrg Tryz.underlying52 rfl (by rw [size_value]; rfl)
  simpa [results, Tryz.results26, asAddr, Act.put, RV.cells] using this
set_option maxRecDepth 100000 in
set_option maxHeartbeats 8000000 in
theorem value_t10 (h : RkAt W E vs rs) {v : Int} {s : Bool} {a1 : Option Addr} {l1 c1 : Nat} {a2 : Option Addr} {l2 c2 : Nat} {res : Bool}
    (ht : ∀ W', Below W.heap.size W W' → Calls Tryz.prog 46 #[.pointer (some ⟨E.R, 0, none⟩), .agg #[.int .i64 10, .int .i64 v, .slice ka kids.length kc, .bool s, .slice a1 l1 c1, .slice a2 l2 c2]] W' (GivesV (.bool res) W')) :
    Calls Tryz.prog 26 #[.pointer (some ⟨E.R, 0, none⟩), .agg #[.int .i64 10, .int .i64 v, .slice ka kids.length kc, .bool s, .slice a1 l1 c1, .slice a2 l2 c2]] W (GotF E.b E.m W (res, 0)) := by
  obtain ⟨W2, hW2, hb2, b1, b2, hs2⟩ := boxes2 W #[.int .i64 10, .int .i64 v, .slice ka kids.length kc, .bool s, .slice a1 l1 c1, .slice a2 l2 c2] #[.bool false, .bool false, .slice none 0 0, .slice none 0 0] 33 52
  have hvb : VB W2 (W.heap.size + 1) zRV.cells := b2
  have H0 := Lib.hid (And.intro (h.roomB hb2) (And.intro hvb (And.intro h.bl (And.intro h.bench h.tab))))
  have HT := Lib.hid (ht W2 hb2)
  have hnr : W2.rangeAt W.heap.size 0 [.int .i64 10, .int .i64 v, .slice ka kids.length kc, .bool s, .slice a1 l1 c1, .slice a2 l2 c2] := range_of_block b1
  have HB2 := Lib.hid hb2
  clear h ht hb2 b1 b2 hs2 hvb
  go_enter Tryz.func26, Tryz.ntmps26
  go_wp2_with fail
  rw [← hW2]
  clear hW2
  go_wp2_with (refine wpList_val (.agg #[.int .i64 10, .int .i64 v, .slice ka kids.length kc, .bool s, .slice a1 l1 c1, .slice a2 l2 c2]) (run_load_op 33 (.tmp 3) (by with_reducible rfl) W.heap.size 0 (by rfl) _ _ hnr Tryz.underlying33 rfl (by rw [size_node]; rfl)) (by rfl) ?_)
  refine HT.out.mono ?_
  rintro e w3 ⟨rfl, hb3⟩
  have hv3 := block_kept H0.out.2.1 hb3
  obtain ⟨hth, hrg, hfin⟩ := val_end (d := ⟨res, false, none, 0, 0, none, 0, 0⟩) (v := (res, 0)) (H0.out.1.kept hb3) hv3 (by omega) (by have := H0.out.2.2.1; omega) ⟨rfl, vq_zero10 _⟩
  have HFIN := Lib.hid hfin
  clear hfin hv3 hb3 hnr
  go_wp2_with (refine wpList_store_mid rfl 52 (.tmp 4) (.tmp 58) rfl (W.heap.size + 1) 0 (RV.cells ⟨res, false, none, 0, 0, none, 0, 0⟩).toArray rfl rfl hth (by rw [size_value]; rfl) (one_cells _) ?_)
  refine bodyPost_ret (v := .agg #[.bool res, .bool false, .slice none 0 0, .slice none 0 0]) ?_ rfl HFIN.out
  have := run_loadVar_mid (P := Tryz.prog) _ (W.heap.size + 1) 0 52 _ _ hrg Tryz.underlying52 rfl (by rw [size_value]; rfl)
  simpa [results, Tryz.results26, asAddr, Act.put, RV.cells] using this
set_option maxRecDepth 100000 in
set_option maxHeartbeats 8000000 in
theorem value_t12 (h : RkAt W E vs rs) {v : Int} {s : Bool} {a1 : Option Addr} {l1 c1 : Nat} {a2 : Option Addr} {l2 c2 : Nat} {res : Bool}
    (ht : ∀ W', Below W.heap.size W W' → Calls Tryz.prog 46 #[.pointer (some ⟨E.R, 0, none⟩), .agg #[.int .i64 12, .int .i64 v, .slice ka kids.length kc, .bool s, .slice a1 l1 c1, .slice a2 l2 c2]] W' (GivesV (.bool res) W')) :
    Calls Tryz.prog 26 #[.pointer (some ⟨E.R, 0, none⟩), .agg #[.int .i64 12, .int .i64 v, .slice ka kids.length kc, .bool s, .slice a1 l1 c1, .slice a2 l2 c2]] W (GotF E.b E.m W (res, 0)) := by
  obtain ⟨W2, hW2, hb2, b1, b2, hs2⟩ := boxes2 W #[.int .i64 12, .int .i64 v, .slice ka kids.length kc, .bool s, .slice a1 l1 c1, .slice a2 l2 c2] #[.bool false, .bool false, .slice none 0 0, .slice none 0 0] 33 52
  have hvb : VB W2 (W.heap.size + 1) zRV.cells := b2
  have H0 := Lib.hid (And.intro (h.roomB hb2) (And.intro hvb (And.intro h.bl (And.intro h.bench h.tab))))
  have HT := Lib.hid (ht W2 hb2)
  have hnr : W2.rangeAt W.heap.size 0 [.int .i64 12, .int .i64 v, .slice ka kids.length kc, .bool s, .slice a1 l1 c1, .slice a2 l2 c2] := range_of_block b1
  have HB2 := Lib.hid hb2
  clear h ht hb2 b1 b2 hs2 hvb
  go_enter Tryz.func26, Tryz.ntmps26
  go_wp2_with fail
  rw [← hW2]
  clear hW2
  go_wp2_with (refine wpList_val (.agg #[.int .i64 12, .int .i64 v, .slice ka kids.length kc, .bool s, .slice a1 l1 c1, .slice a2 l2 c2]) (run_load_op 33 (.tmp 3) (by with_reducible rfl) W.heap.size 0 (by rfl) _ _ hnr Tryz.underlying33 rfl (by rw [size_node]; rfl)) (by rfl) ?_)
  refine HT.out.mono ?_
  rintro e w3 ⟨rfl, hb3⟩
  have hv3 := block_kept H0.out.2.1 hb3
  obtain ⟨hth, hrg, hfin⟩ := val_end (d := ⟨res, false, none, 0, 0, none, 0, 0⟩) (v := (res, 0)) (H0.out.1.kept hb3) hv3 (by omega) (by have := H0.out.2.2.1; omega) ⟨rfl, vq_zero10 _⟩
  have HFIN := Lib.hid hfin
  clear hfin hv3 hb3 hnr
  go_wp2_with (refine wpList_store_mid rfl 52 (.tmp 4) (.tmp 58) rfl (W.heap.size + 1) 0 (RV.cells ⟨res, false, none, 0, 0, none, 0, 0⟩).toArray rfl rfl hth (by rw [size_value]; rfl) (one_cells _) ?_)
  refine bodyPost_ret (v := .agg #[.bool res, .bool false, .slice none 0 0, .slice none 0 0]) ?_ rfl HFIN.out
  have := run_loadVar_mid (P := Tryz.prog) _ (W.heap.size + 1) 0 52 _ _ hrg Tryz.underlying52 rfl (by rw [size_value]; rfl)
  simpa [results, Tryz.results26, asAddr, Act.put, RV.cells] using this
set_option maxRecDepth 100000 in
set_option maxHeartbeats 8000000 in
theorem value_t13 (h : RkAt W E vs rs) {v : Int} {s : Bool} {a1 : Option Addr} {l1 c1 : Nat} {a2 : Option Addr} {l2 c2 : Nat} {res : Bool}
    (ht : ∀ W', Below W.heap.size W W' → Calls Tryz.prog 46 #[.pointer (some ⟨E.R, 0, none⟩), .agg #[.int .i64 13, .int .i64 v, .slice ka kids.length kc, .bool s, .slice a1 l1 c1, .slice a2 l2 c2]] W' (GivesV (.bool res) W')) :
    Calls Tryz.prog 26 #[.pointer (some ⟨E.R, 0, none⟩), .agg #[.int .i64 13, .int .i64 v, .slice ka kids.length kc, .bool s, .slice a1 l1 c1, .slice a2 l2 c2]] W (GotF E.b E.m W (res, 0)) := by
  obtain ⟨W2, hW2, hb2, b1, b2, hs2⟩ := boxes2 W #[.int .i64 13, .int .i64 v, .slice ka kids.length kc, .bool s, .slice a1 l1 c1, .slice a2 l2 c2] #[.bool false, .bool false, .slice none 0 0, .slice none 0 0] 33 52
  have hvb : VB W2 (W.heap.size + 1) zRV.cells := b2
  have H0 := Lib.hid (And.intro (h.roomB hb2) (And.intro hvb (And.intro h.bl (And.intro h.bench h.tab))))
  have HT := Lib.hid (ht W2 hb2)
  have hnr : W2.rangeAt W.heap.size 0 [.int .i64 13, .int .i64 v, .slice ka kids.length kc, .bool s, .slice a1 l1 c1, .slice a2 l2 c2] := range_of_block b1
  have HB2 := Lib.hid hb2
  clear h ht hb2 b1 b2 hs2 hvb
  go_enter Tryz.func26, Tryz.ntmps26
  go_wp2_with fail
  rw [← hW2]
  clear hW2
  go_wp2_with (refine wpList_val (.agg #[.int .i64 13, .int .i64 v, .slice ka kids.length kc, .bool s, .slice a1 l1 c1, .slice a2 l2 c2]) (run_load_op 33 (.tmp 3) (by with_reducible rfl) W.heap.size 0 (by rfl) _ _ hnr Tryz.underlying33 rfl (by rw [size_node]; rfl)) (by rfl) ?_)
  refine HT.out.mono ?_
  rintro e w3 ⟨rfl, hb3⟩
  have hv3 := block_kept H0.out.2.1 hb3
  obtain ⟨hth, hrg, hfin⟩ := val_end (d := ⟨res, false, none, 0, 0, none, 0, 0⟩) (v := (res, 0)) (H0.out.1.kept hb3) hv3 (by omega) (by have := H0.out.2.2.1; omega) ⟨rfl, vq_zero10 _⟩
  have HFIN := Lib.hid hfin
  clear hfin hv3 hb3 hnr
  go_wp2_with (refine wpList_store_mid rfl 52 (.tmp 4) (.tmp 58) rfl (W.heap.size + 1) 0 (RV.cells ⟨res, false, none, 0, 0, none, 0, 0⟩).toArray rfl rfl hth (by rw [size_value]; rfl) (one_cells _) ?_)
  refine bodyPost_ret (v := .agg #[.bool res, .bool false, .slice none 0 0, .slice none 0 0]) ?_ rfl HFIN.out
  have := run_loadVar_mid (P := Tryz.prog) _ (W.heap.size + 1) 0 52 _ _ hrg Tryz.underlying52 rfl (by rw [size_value]; rfl)
  simpa [results, Tryz.results26, asAddr, Act.put, RV.cells] using this
set_option maxRecDepth 100000 in
set_option maxHeartbeats 8000000 in
theorem value_t14 (h : RkAt W E vs rs) {v : Int} {s : Bool} {a1 : Option Addr} {l1 c1 : Nat} {a2 : Option Addr} {l2 c2 : Nat} {res : Bool}
    (ht : ∀ W', Below W.heap.size W W' → Calls Tryz.prog 46 #[.pointer (some ⟨E.R, 0, none⟩), .agg #[.int .i64 14, .int .i64 v, .slice ka kids.length kc, .bool s, .slice a1 l1 c1, .slice a2 l2 c2]] W' (GivesV (.bool res) W')) :
    Calls Tryz.prog 26 #[.pointer (some ⟨E.R, 0, none⟩), .agg #[.int .i64 14, .int .i64 v, .slice ka kids.length kc, .bool s, .slice a1 l1 c1, .slice a2 l2 c2]] W (GotF E.b E.m W (res, 0)) := by
  obtain ⟨W2, hW2, hb2, b1, b2, hs2⟩ := boxes2 W #[.int .i64 14, .int .i64 v, .slice ka kids.length kc, .bool s, .slice a1 l1 c1, .slice a2 l2 c2] #[.bool false, .bool false, .slice none 0 0, .slice none 0 0] 33 52
  have hvb : VB W2 (W.heap.size + 1) zRV.cells := b2
  have H0 := Lib.hid (And.intro (h.roomB hb2) (And.intro hvb (And.intro h.bl (And.intro h.bench h.tab))))
  have HT := Lib.hid (ht W2 hb2)
  have hnr : W2.rangeAt W.heap.size 0 [.int .i64 14, .int .i64 v, .slice ka kids.length kc, .bool s, .slice a1 l1 c1, .slice a2 l2 c2] := range_of_block b1
  have HB2 := Lib.hid hb2
  clear h ht hb2 b1 b2 hs2 hvb
  go_enter Tryz.func26, Tryz.ntmps26
  go_wp2_with fail
  rw [← hW2]
  clear hW2
  go_wp2_with (refine wpList_val (.agg #[.int .i64 14, .int .i64 v, .slice ka kids.length kc, .bool s, .slice a1 l1 c1, .slice a2 l2 c2]) (run_load_op 33 (.tmp 3) (by with_reducible rfl) W.heap.size 0 (by rfl) _ _ hnr Tryz.underlying33 rfl (by rw [size_node]; rfl)) (by rfl) ?_)
  refine HT.out.mono ?_
  rintro e w3 ⟨rfl, hb3⟩
  have hv3 := block_kept H0.out.2.1 hb3
  obtain ⟨hth, hrg, hfin⟩ := val_end (d := ⟨res, false, none, 0, 0, none, 0, 0⟩) (v := (res, 0)) (H0.out.1.kept hb3) hv3 (by omega) (by have := H0.out.2.2.1; omega) ⟨rfl, vq_zero10 _⟩
  have HFIN := Lib.hid hfin
  clear hfin hv3 hb3 hnr
  go_wp2_with (refine wpList_store_mid rfl 52 (.tmp 4) (.tmp 58) rfl (W.heap.size + 1) 0 (RV.cells ⟨res, false, none, 0, 0, none, 0, 0⟩).toArray rfl rfl hth (by rw [size_value]; rfl) (one_cells _) ?_)
  refine bodyPost_ret (v := .agg #[.bool res, .bool false, .slice none 0 0, .slice none 0 0]) ?_ rfl HFIN.out
  have := run_loadVar_mid (P := Tryz.prog) _ (W.heap.size + 1) 0 52 _ _ hrg Tryz.underlying52 rfl (by rw [size_value]; rfl)
  simpa [results, Tryz.results26, asAddr, Act.put, RV.cells] using this
set_option maxRecDepth 100000 in
set_option maxHeartbeats 8000000 in
theorem value_t15 (h : RkAt W E vs rs) {v : Int} {s : Bool} {a1 : Option Addr} {l1 c1 : Nat} {a2 : Option Addr} {l2 c2 : Nat} {res : Bool}
    (ht : ∀ W', Below W.heap.size W W' → Calls Tryz.prog 46 #[.pointer (some ⟨E.R, 0, none⟩), .agg #[.int .i64 15, .int .i64 v, .slice ka kids.length kc, .bool s, .slice a1 l1 c1, .slice a2 l2 c2]] W' (GivesV (.bool res) W')) :
    Calls Tryz.prog 26 #[.pointer (some ⟨E.R, 0, none⟩), .agg #[.int .i64 15, .int .i64 v, .slice ka kids.length kc, .bool s, .slice a1 l1 c1, .slice a2 l2 c2]] W (GotF E.b E.m W (res, 0)) := by
  obtain ⟨W2, hW2, hb2, b1, b2, hs2⟩ := boxes2 W #[.int .i64 15, .int .i64 v, .slice ka kids.length kc, .bool s, .slice a1 l1 c1, .slice a2 l2 c2] #[.bool false, .bool false, .slice none 0 0, .slice none 0 0] 33 52
  have hvb : VB W2 (W.heap.size + 1) zRV.cells := b2
  have H0 := Lib.hid (And.intro (h.roomB hb2) (And.intro hvb (And.intro h.bl (And.intro h.bench h.tab))))
  have HT := Lib.hid (ht W2 hb2)
  have hnr : W2.rangeAt W.heap.size 0 [.int .i64 15, .int .i64 v, .slice ka kids.length kc, .bool s, .slice a1 l1 c1, .slice a2 l2 c2] := range_of_block b1
  have HB2 := Lib.hid hb2
  clear h ht hb2 b1 b2 hs2 hvb
  go_enter Tryz.func26, Tryz.ntmps26
  go_wp2_with fail
  rw [← hW2]
  clear hW2
  go_wp2_with (refine wpList_val (.agg #[.int .i64 15, .int .i64 v, .slice ka kids.length kc, .bool s, .slice a1 l1 c1, .slice a2 l2 c2]) (run_load_op 33 (.tmp 3) (by with_reducible rfl) W.heap.size 0 (by rfl) _ _ hnr Tryz.underlying33 rfl (by rw [size_node]; rfl)) (by rfl) ?_)
  refine HT.out.mono ?_
  rintro e w3 ⟨rfl, hb3⟩
  have hv3 := block_kept H0.out.2.1 hb3
  obtain ⟨hth, hrg, hfin⟩ := val_end (d := ⟨res, false, none, 0, 0, none, 0, 0⟩) (v := (res, 0)) (H0.out.1.kept hb3) hv3 (by omega) (by have := H0.out.2.2.1; omega) ⟨rfl, vq_zero10 _⟩
  have HFIN := Lib.hid hfin
  clear hfin hv3 hb3 hnr
  go_wp2_with (refine wpList_store_mid rfl 52 (.tmp 4) (.tmp 58) rfl (W.heap.size + 1) 0 (RV.cells ⟨res, false, none, 0, 0, none, 0, 0⟩).toArray rfl rfl hth (by rw [size_value]; rfl) (one_cells _) ?_)
  refine bodyPost_ret (v := .agg #[.bool res, .bool false, .slice none 0 0, .slice none 0 0]) ?_ rfl HFIN.out
  have := run_loadVar_mid (P := Tryz.prog) _ (W.heap.size + 1) 0 52 _ _ hrg Tryz.underlying52 rfl (by rw [size_value]; rfl)
  simpa [results, Tryz.results26, asAddr, Act.put, RV.cells] using this
set_option maxRecDepth 100000 in
set_option maxHeartbeats 8000000 in
theorem value_t16 (h : RkAt W E vs rs) {v : Int} {s : Bool} {a1 : Option Addr} {l1 c1 : Nat} {a2 : Option Addr} {l2 c2 : Nat} {res : Bool}
    (ht : ∀ W', Below W.heap.size W W' → Calls Tryz.prog 46 #[.pointer (some ⟨E.R, 0, none⟩), .agg #[.int .i64 16, .int .i64 v, .slice ka kids.length kc, .bool s, .slice a1 l1 c1, .slice a2 l2 c2]] W' (GivesV (.bool res) W')) :
    Calls Tryz.prog 26 #[.pointer (some ⟨E.R, 0, none⟩), .agg #[.int .i64 16, .int .i64 v, .slice ka kids.length kc, .bool s, .slice a1 l1 c1, .slice a2 l2 c2]] W (GotF E.b E.m W (res, 0)) := by
  obtain ⟨W2, hW2, hb2, b1, b2, hs2⟩ := boxes2 W #[.int .i64 16, .int .i64 v, .slice ka kids.length kc, .bool s, .slice a1 l1 c1, .slice a2 l2 c2] #[.bool false, .bool false, .slice none 0 0, .slice none 0 0] 33 52
  have hvb : VB W2 (W.heap.size + 1) zRV.cells := b2
  have H0 := Lib.hid (And.intro (h.roomB hb2) (And.intro hvb (And.intro h.bl (And.intro h.bench h.tab))))
  have HT := Lib.hid (ht W2 hb2)
  have hnr : W2.rangeAt W.heap.size 0 [.int .i64 16, .int .i64 v, .slice ka kids.length kc, .bool s, .slice a1 l1 c1, .slice a2 l2 c2] := range_of_block b1
  have HB2 := Lib.hid hb2
  clear h ht hb2 b1 b2 hs2 hvb
  go_enter Tryz.func26, Tryz.ntmps26
  go_wp2_with fail
  rw [← hW2]
  clear hW2
  go_wp2_with (refine wpList_val (.agg #[.int .i64 16, .int .i64 v, .slice ka kids.length kc, .bool s, .slice a1 l1 c1, .slice a2 l2 c2]) (run_load_op 33 (.tmp 3) (by with_reducible rfl) W.heap.size 0 (by rfl) _ _ hnr Tryz.underlying33 rfl (by rw [size_node]; rfl)) (by rfl) ?_)
  refine HT.out.mono ?_
  rintro e w3 ⟨rfl, hb3⟩
  have hv3 := block_kept H0.out.2.1 hb3
  obtain ⟨hth, hrg, hfin⟩ := val_end (d := ⟨res, false, none, 0, 0, none, 0, 0⟩) (v := (res, 0)) (H0.out.1.kept hb3) hv3 (by omega) (by have := H0.out.2.2.1; omega) ⟨rfl, vq_zero10 _⟩
  have HFIN := Lib.hid hfin
  clear hfin hv3 hb3 hnr
  go_wp2_with (refine wpList_store_mid rfl 52 (.tmp 4) (.tmp 58) rfl (W.heap.size + 1) 0 (RV.cells ⟨res, false, none, 0, 0, none, 0, 0⟩).toArray rfl rfl hth (by rw [size_value]; rfl) (one_cells _) ?_)
  refine bodyPost_ret (v := .agg #[.bool res, .bool false, .slice none 0 0, .slice none 0 0]) ?_ rfl HFIN.out
  have := run_loadVar_mid (P := Tryz.prog) _ (W.heap.size + 1) 0 52 _ _ hrg Tryz.underlying52 rfl (by rw [size_value]; rfl)
  simpa [results, Tryz.results26, asAddr, Act.put, RV.cells] using this
set_option maxRecDepth 100000 in
set_option maxHeartbeats 8000000 in
theorem value_t17 (h : RkAt W E vs rs) {v : Int} {s : Bool} {a1 : Option Addr} {l1 c1 : Nat} {a2 : Option Addr} {l2 c2 : Nat} {res : Bool}
    (ht : ∀ W', Below W.heap.size W W' → Calls Tryz.prog 46 #[.pointer (some ⟨E.R, 0, none⟩), .agg #[.int .i64 17, .int .i64 v, .slice ka kids.length kc, .bool s, .slice a1 l1 c1, .slice a2 l2 c2]] W' (GivesV (.bool res) W')) :
    Calls Tryz.prog 26 #[.pointer (some ⟨E.R, 0, none⟩), .agg #[.int .i64 17, .int .i64 v, .slice ka kids.length kc, .bool s, .slice a1 l1 c1, .slice a2 l2 c2]] W (GotF E.b E.m W (res, 0)) := by
  obtain ⟨W2, hW2, hb2, b1, b2, hs2⟩ := boxes2 W #[.int .i64 17, .int .i64 v, .slice ka kids.length kc, .bool s, .slice a1 l1 c1, .slice a2 l2 c2] #[.bool false, .bool false, .slice none 0 0, .slice none 0 0] 33 52
  have hvb : VB W2 (W.heap.size + 1) zRV.cells := b2
  have H0 := Lib.hid (And.intro (h.roomB hb2) (And.intro hvb (And.intro h.bl (And.intro h.bench h.tab))))
  have HT := Lib.hid (ht W2 hb2)
  have hnr : W2.rangeAt W.heap.size 0 [.int .i64 17, .int .i64 v, .slice ka kids.length kc, .bool s, .slice a1 l1 c1, .slice a2 l2 c2] := range_of_block b1
  have HB2 := Lib.hid hb2
  clear h ht hb2 b1 b2 hs2 hvb
  go_enter Tryz.func26, Tryz.ntmps26
  go_wp2_with fail
  rw [← hW2]
  clear hW2
  go_wp2_with (refine wpList_val (.agg #[.int .i64 17, .int .i64 v, .slice ka kids.length kc, .bool s, .slice a1 l1 c1, .slice a2 l2 c2]) (run_load_op 33 (.tmp 3) (by with_reducible rfl) W.heap.size 0 (by rfl) _ _ hnr Tryz.underlying33 rfl (by rw [size_node]; rfl)) (by rfl) ?_)
  refine HT.out.mono ?_
  rintro e w3 ⟨rfl, hb3⟩
  have hv3 := block_kept H0.out.2.1 hb3
  obtain ⟨hth, hrg, hfin⟩ := val_end (d := ⟨res, false, none, 0, 0, none, 0, 0⟩) (v := (res, 0)) (H0.out.1.kept hb3) hv3 (by omega) (by have := H0.out.2.2.1; omega) ⟨rfl, vq_zero10 _⟩
  have HFIN := Lib.hid hfin
  clear hfin hv3 hb3 hnr
  go_wp2_with (refine wpList_store_mid rfl 52 (.tmp 4) (.tmp 58) rfl (W.heap.size + 1) 0 (RV.cells ⟨res, false, none, 0, 0, none, 0, 0⟩).toArray rfl rfl hth (by rw [size_value]; rfl) (one_cells _) ?_)
  refine bodyPost_ret (v := .agg #[.bool res, .bool false, .slice none 0 0, .slice none 0 0]) ?_ rfl HFIN.out
  have := run_loadVar_mid (P := Tryz.prog) _ (W.heap.size + 1) 0 52 _ _ hrg Tryz.underlying52 rfl (by rw [size_value]; rfl)
  simpa [results, Tryz.results26, asAddr, Act.put, RV.cells] using this
set_option maxRecDepth 100000 in
set_option maxHeartbeats 8000000 in
theorem value_4 (h : RkAt W E vs rs) (hs : ∀ q ∈ E.reals, szQ q ≤ 48) (v : Int) (s : Bool) (a1 : Option Addr) (l1 c1 : Nat) (a2 : Option Addr) (l2 c2 : Nat) (hv : 0 ≤ v ∧ v < (E.reals.length : Int)) :
    Calls Tryz.prog 26 #[.pointer (some ⟨E.R, 0, none⟩), .agg #[.int .i64 4, .int .i64 v, .slice ka kids.length kc, .bool s, .slice a1 l1 c1, .slice a2 l2 c2]] W (GotF E.b E.m W (false, E.reals.getD v.toNat 0)) := by
  obtain ⟨W2, hW2, hb2, b1, b2, hs2⟩ := boxes2 W #[.int .i64 4, .int .i64 v, .slice ka kids.length kc, .bool s, .slice a1 l1 c1, .slice a2 l2 c2] #[.bool false, .bool false, .slice none 0 0, .slice none 0 0] 33 52
  have hvb : VB W2 (W.heap.size + 1) zRV.cells := b2
  have H0 := Lib.hid (And.intro (h.roomB hb2) (And.intro hvb h.bl))
  obtain ⟨k, rfl⟩ : ∃ k : Nat, v = (k : Int) := ⟨v.toNat, by omega⟩
  have hkb : k < E.reals.length := by omega
  have hra := (h.kept hb2).reals
  have hgb : E.reals[k]? = some (E.reals.getD k 0) := by rw [List.getD_eq_getElem?_getD, List.getElem?_eq_getElem hkb]; rfl
  obtain ⟨d, hd⟩ : ∃ d, E.rq[k]? = some d := ⟨_, List.getElem?_eq_getElem (by rw [hra.len]; exact hkb)⟩
  have hsz := hs _ (List.mem_of_getElem? hgb)
  have hvq := hra.vals k d _ hd hgb
  obtain ⟨_, _, c2', _⟩ := (h.kept hb2).cells
  obtain ⟨g, off, hba, hbr⟩ : ∃ g off, E.ra = some ⟨g, off, none⟩ ∧ W2.rangeAt g (off + k * 3) d.rat := by
    rcases hra.at_ with e | ⟨g, off, e, _, hr⟩
    · rw [e] at hkb; simp at hkb
    · exact ⟨g, off, e, hr k d hd⟩
  rw [hba] at c2'
  have htn : ((k : Int)).toNat = k := by omega
  rw [htn]
  have hgl : g < W.heap.size := by
    rcases h.reals.at_ with e | ⟨g', off', e, _, hr⟩
    · rw [e] at hkb; simp at hkb
    · rw [hba] at e; cases e; exact rangeAt_lt (hr k d hd) (by simp [RV.rat])
  have HLT := Lib.hid (And.intro (show E.R < W.heap.size from (Array.getElem?_eq_some_iff.1 h.head).1) hgl)
  generalize E.reals.getD k 0 = res at *
  have HOW := Lib.hid (own10 (hvq.kept10 (below_drew W2) : VQ res (d.s, (d.z1, d.m1, d.k1), (d.z2, d.m2, d.k2)) W2.drew) (by omega))
  have hk1 : (k : Int) < (E.reals.length : Int) := hv.2
  generalize E.reals.length = nr at *
  have HX : Hid (W2.drew.cell? ⟨E.R, 2, none⟩ = some (.slice (some ⟨g, off, none⟩) nr E.rc) ∧ W2.drew.cell? ⟨W.heap.size, 1, none⟩ = some (.int .i64 (k : Int)) ∧ W2.drew.rangeAt g (off + k * 3) d.rat) := Lib.hid ⟨c2', by have := (cell_of_block b1 1).1; exact this, hbr⟩
  clear h hb2 b1 b2 hs2 hvb hs hv hra hgb hd hsz hvq c2' hba hbr htn hgl
  go_enter Tryz.func26, Tryz.ntmps26
  go_wp2_with fail
  rw [← hW2]
  clear hW2
  refine wp_region_held_drew (S := (fun w' => w'.cell? ⟨E.R, 2, none⟩ = some (.slice (some ⟨g, off, none⟩) nr E.rc) ∧ w'.cell? ⟨W.heap.size, 1, none⟩ = some (.int .i64 (k : Int)) ∧ w'.rangeAt g (off + k * 3) d.rat)) (by kernel_rfl) ?_ (fun hHeld => ?_)
  · exact HX.out
  refine wpAnyH_take (i := 0) (v := ?_) (by rfl) (by kernel_rfl) (by kernel_rfl) (by kernel_rfl) (by exact fun _ _ _ h => h) (Or.inl ⟨by rfl, ?_⟩) hHeld ?_
  rotate_left 1
  · intro w' hSw
    (try dsimp only at hSw)
    go_simp
    try with_reducible rfl
  try simp only [Act.put, List.setIfInBounds_toArray, List.set_cons_zero, List.set_cons_succ, List.getElem_toArray, List.getElem_cons_zero, List.getElem_cons_succ]
  refine wpAnyH_take (i := 1) (v := ?_) (by rfl) (by kernel_rfl) (by kernel_rfl) (by kernel_rfl) (by exact fun _ _ _ h => h) (Or.inl ⟨by rfl, ?_⟩) hHeld ?_
  rotate_left 1
  · intro w' hSw
    (try dsimp only at hSw)
    go_simp
    try with_reducible rfl
  try simp only [Act.put, List.setIfInBounds_toArray, List.set_cons_zero, List.set_cons_succ, List.getElem_toArray, List.getElem_cons_zero, List.getElem_cons_succ]
  refine wpAnyH_take (i := 2) (v := ?_) (by rfl) (by kernel_rfl) (by kernel_rfl) (by kernel_rfl) (by exact fun _ _ _ h => h) (Or.inl ⟨by rfl, ?_⟩) hHeld ?_
  rotate_left 1
  · intro w' hSw
    (try dsimp only at hSw)
    go_simp
    try with_reducible rfl
  try simp only [Act.put, List.setIfInBounds_toArray, List.set_cons_zero, List.set_cons_succ, List.getElem_toArray, List.getElem_cons_zero, List.getElem_cons_succ]
  refine wpAnyH_take (i := 3) (v := .slice (some ⟨g, off, none⟩) nr E.rc) (by rfl) (by kernel_rfl) (by kernel_rfl) (by kernel_rfl) (by exact fun _ _ _ h => h) (Or.inl ⟨by rfl, ?_⟩) hHeld ?_
  · intro w' hSw
    obtain ⟨s1, s2, s3⟩ := hSw
    go_simp
  try simp only [Act.put, List.setIfInBounds_toArray, List.set_cons_zero, List.set_cons_succ, List.getElem_toArray, List.getElem_cons_zero, List.getElem_cons_succ]
  refine wpAnyH_take (i := 4) (v := ?_) (by rfl) (by kernel_rfl) (by kernel_rfl) (by kernel_rfl) (by exact fun _ _ _ h => h) (Or.inl ⟨by rfl, ?_⟩) hHeld ?_
  rotate_left 1
  · intro w' hSw
    (try dsimp only at hSw)
    go_simp
    try with_reducible rfl
  try simp only [Act.put, List.setIfInBounds_toArray, List.set_cons_zero, List.set_cons_succ, List.getElem_toArray, List.getElem_cons_zero, List.getElem_cons_succ]
  refine wpAnyH_take (i := 5) (v := .int .i64 (k : Int)) (by rfl) (by kernel_rfl) (by kernel_rfl) (by kernel_rfl) (by exact fun _ _ _ h => h) (Or.inl ⟨by rfl, ?_⟩) hHeld ?_
  · intro w' hSw
    obtain ⟨s1, s2, s3⟩ := hSw
    go_simp
  try simp only [Act.put, List.setIfInBounds_toArray, List.set_cons_zero, List.set_cons_succ, List.getElem_toArray, List.getElem_cons_zero, List.getElem_cons_succ]
  refine wpAnyH_take (i := 6) (v := ?_) (by rfl) (by kernel_rfl) (by kernel_rfl) (by kernel_rfl) (by exact fun _ _ _ h => h) (Or.inl ⟨by rfl, ?_⟩) hHeld ?_
  rotate_left 1
  · intro w' hSw
    (try dsimp only at hSw)
    go_simp
    try with_reducible rfl
  try simp only [Act.put, List.setIfInBounds_toArray, List.set_cons_zero, List.set_cons_succ, List.getElem_toArray, List.getElem_cons_zero, List.getElem_cons_succ]
  refine wpAnyH_take (i := 7) (v := .agg #[.bool d.s, .slice d.z1 d.m1 d.k1, .slice d.z2 d.m2 d.k2]) (by rfl) (by kernel_rfl) (by kernel_rfl) (by kernel_rfl) (by exact fun _ _ _ h => h) (Or.inl ⟨by rfl, ?_⟩) hHeld ?_
  · intro w' hSw
    exact run_load_op 27 (.tmp 15) rfl g (off + k * 3) rfl d.rat _ hSw.2.2 Tryz.underlying27 rfl (by rw [size_ratio]; rfl)
  try simp only [Act.put, List.setIfInBounds_toArray, List.set_cons_zero, List.set_cons_succ, List.getElem_toArray, List.getElem_cons_zero, List.getElem_cons_succ]
  refine wpAnyH_ready (rs := [8]) (by kernel_rfl) (by simp) ?_
  refine AllReadyH.cons (by rfl) (fun K hK => ?_) AllReadyH.nil
  go_simp
  refine HOW.out.mono ?_
  intro e w5 hgot
  obtain ⟨d5, hd5, rfl, G5, Q5⟩ := hgot.rv false
  have HS5 : Hid (w5.cell? ⟨E.R, 2, none⟩ = some (.slice (some ⟨g, off, none⟩) nr E.rc) ∧ w5.cell? ⟨W.heap.size, 1, none⟩ = some (.int .i64 (k : Int)) ∧ w5.rangeAt g (off + k * 3) d.rat) := Lib.hid ⟨cell_kept HX.out.1 G5.out, cell_kept HX.out.2.1 G5.out, fun j u hu => cell_kept (HX.out.2.2 j u hu) G5.out⟩
  have hv5 := block_kept (W := W2.drew) H0.out.2.1 G5.out
  obtain ⟨hth, hrg, hfin⟩ := val_end (d := ⟨false, d5.s, d5.z1, d5.m1, d5.k1, d5.z2, d5.m2, d5.k2⟩) (v := (false, res)) ((H0.out.1.kept (below_drew W2)).kept G5.out) hv5 (by omega) (by have := H0.out.2.2; omega) ⟨rfl, Q5.out⟩
  have HFIN := Lib.hid hfin
  clear hfin hv5 hgot
  refine hK.out _ _ ?_ (fun hHeld => ?_)
  · exact HS5.out
  clear hK K
  try simp only [Act.put, List.setIfInBounds_toArray, List.set_cons_zero, List.set_cons_succ, List.getElem_toArray, List.getElem_cons_zero, List.getElem_cons_succ]
  refine wpAnyH_take (i := 9) (v := ?_) (by rfl) (by kernel_rfl) (by kernel_rfl) (by kernel_rfl) (by exact fun _ _ _ h => h) (Or.inl ⟨by rfl, ?_⟩) hHeld ?_
  rotate_left 1
  · intro w' hSw
    (try dsimp only at hSw)
    go_simp
    try with_reducible rfl
  try simp only [Act.put, List.setIfInBounds_toArray, List.set_cons_zero, List.set_cons_succ, List.getElem_toArray, List.getElem_cons_zero, List.getElem_cons_succ]
  refine wpAnyH_ready (rs := [10]) (by kernel_rfl) (by simp) ?_
  refine AllReadyH.cons (by rfl) (fun K hK => ?_) AllReadyH.nil
  refine Rg.step_store_any rfl 52 (.tmp 4) (.tmp 18) rfl (W.heap.size + 1) 0 (RV.cells ⟨false, d5.s, d5.z1, d5.m1, d5.k1, d5.z2, d5.m2, d5.k2⟩).toArray rfl rfl hth (by rw [size_value]; rfl) (one_cells _) ?_
  have hch : Chg (fun j => j = W.heap.size + 1) w5 (w5.setCells (W.heap.size + 1) 0 (RV.cells ⟨false, d5.s, d5.z1, d5.m1, d5.k1, d5.z2, d5.m2, d5.k2⟩)) := chg_setCells (S := fun j => j = W.heap.size + 1) rfl _ _ _
  refine hK.out _ _ ?_ (fun hHeld => ?_)
  · exact ⟨cell_chg HS5.out.1 hch (by have := HLT.out.1; omega), cell_chg HS5.out.2.1 hch (by omega), range_chg HS5.out.2.2 hch (by have := HLT.out.2; omega)⟩
  clear hK K
  try simp only [Act.put, List.setIfInBounds_toArray, List.set_cons_zero, List.set_cons_succ, List.getElem_toArray, List.getElem_cons_zero, List.getElem_cons_succ]
  refine wpAnyH_done (by kernel_rfl) ?_ _
  clear hHeld hch
  go_wp2_with fail
  refine bodyPost_ret (v := .agg #[.bool false, .bool d5.s, .slice d5.z1 d5.m1 d5.k1, .slice d5.z2 d5.m2 d5.k2]) ?_ rfl HFIN.out
  have := run_loadVar_mid (P := Tryz.prog) _ (W.heap.size + 1) 0 52 _ _ hrg Tryz.underlying52 rfl (by rw [size_value]; rfl)
  simpa [results, Tryz.results26, asAddr, Act.put, RV.cells] using this
set_option maxRecDepth 100000 in
set_option maxHeartbeats 8000000 in
theorem value_5 (h : RkAt W E vs rs) (v : Int) (s : Bool) (a1 : Option Addr) (l1 c1 : Nat) (a2 : Option Addr) (l2 c2 : Nat) {q : Rat} (hq : VQ q (s, (a1, l1, c1), (a2, l2, c2)) W) (hsz : szQ q ≤ 48) :
    Calls Tryz.prog 26 #[.pointer (some ⟨E.R, 0, none⟩), .agg #[.int .i64 5, .int .i64 v, .slice ka kids.length kc, .bool s, .slice a1 l1 c1, .slice a2 l2 c2]] W (GotF E.b E.m W (false, q)) := by
  obtain ⟨W2, hW2, hb2, b1, b2, hs2⟩ := boxes2 W #[.int .i64 5, .int .i64 v, .slice ka kids.length kc, .bool s, .slice a1 l1 c1, .slice a2 l2 c2] #[.bool false, .bool false, .slice none 0 0, .slice none 0 0] 33 52
  have hvb : VB W2 (W.heap.size + 1) zRV.cells := b2
  have H0 := Lib.hid (And.intro (h.roomB hb2) (And.intro hvb h.bl))
  have HOW := Lib.hid (own10 (hq.kept10 hb2) (by omega))
  have hnr : W2.rangeAt W.heap.size 3 [.bool s, .slice a1 l1 c1, .slice a2 l2 c2] := fun j u hu => by
    have := (cell_of_block b1 (3 + j)).1
    rw [this, Nat.add_comm 3 j]
    exact hu
  clear h hb2 b1 b2 hs2 hvb hq hsz
  go_enter Tryz.func26, Tryz.ntmps26
  go_wp2_with fail
  rw [← hW2]
  clear hW2
  go_wp2_with (refine wpList_val (.agg #[.bool s, .slice a1 l1 c1, .slice a2 l2 c2]) (run_load_op 27 (.tmp 21) (by with_reducible rfl) W.heap.size 3 (by rfl) _ _ hnr Tryz.underlying27 rfl (by rw [size_ratio]; rfl)) (by rfl) ?_)
  refine HOW.out.mono ?_
  intro e w3 hgot
  obtain ⟨d, hd, rfl, G3, Q3⟩ := hgot.rv false
  have hv3 := block_kept H0.out.2.1 G3.out
  obtain ⟨hth, hrg, hfin⟩ := val_end (d := ⟨false, d.s, d.z1, d.m1, d.k1, d.z2, d.m2, d.k2⟩) (v := (false, q)) (H0.out.1.kept G3.out) hv3 (by omega) (by have := H0.out.2.2; omega) ⟨rfl, Q3.out⟩
  have HFIN := Lib.hid hfin
  clear hfin hv3 hgot hnr G3 Q3
  go_wp2_with (refine wpList_store_mid rfl 52 (.tmp 4) (.tmp 24) rfl (W.heap.size + 1) 0 (RV.cells ⟨false, d.s, d.z1, d.m1, d.k1, d.z2, d.m2, d.k2⟩).toArray rfl rfl hth (by rw [size_value]; rfl) (one_cells _) ?_)
  refine bodyPost_ret (v := .agg #[.bool false, .bool d.s, .slice d.z1 d.m1 d.k1, .slice d.z2 d.m2 d.k2]) ?_ rfl HFIN.out
  have := run_loadVar_mid (P := Tryz.prog) _ (W.heap.size + 1) 0 52 _ _ hrg Tryz.underlying52 rfl (by rw [size_value]; rfl)
  simpa [results, Tryz.results26, asAddr, Act.put, RV.cells] using this
set_option maxRecDepth 100000 in
set_option maxHeartbeats 8000000 in
theorem value_11 (h : RkAt W E vs rs) (hk : KAt W ka kids kc) (hin : ∀ x ∈ kids, 0 ≤ x ∧ x < (vs.length : Int)) (h3 : kids.length = 3) (hs : ∀ v ∈ vs, szQ v.2 ≤ 100) (v : Int) (s : Bool) (a1 : Option Addr) (l1 c1 : Nat) (a2 : Option Addr) (l2 c2 : Nat) :
    Calls Tryz.prog 26 #[.pointer (some ⟨E.R, 0, none⟩), .agg #[.int .i64 11, .int .i64 v, .slice ka kids.length kc, .bool s, .slice a1 l1 c1, .slice a2 l2 c2]] W (GotF E.b E.m W (if isT vs (kid kids 0) = true then vat vs (kid kids 1) else vat vs (kid kids 2))) := by
  obtain ⟨W2, hW2, hb2, b1, b2, hs2⟩ := boxes2 W #[.int .i64 11, .int .i64 v, .slice ka kids.length kc, .bool s, .slice a1 l1 c1, .slice a2 l2 c2] #[.bool false, .bool false, .slice none 0 0, .slice none 0 0] 33 52
  have hvb : VB W2 (W.heap.size + 1) zRV.cells := b2
  have H0 := Lib.hid (And.intro (h.roomB hb2) (And.intro hvb h.bl))
  have HC := Lib.hid (choice_any (h.kept hb2) (hk.kept hb2) h3 hin hs)
  obtain ⟨res, hres⟩ : ∃ res, (if isT vs (kid kids 0) = true then vat vs (kid kids 1) else vat vs (kid kids 2)) = res := ⟨_, rfl⟩
  rw [hres] at HC ⊢
  clear h hb2 b1 b2 hs2 hvb hres hk hin h3 hs
  go_enter Tryz.func26, Tryz.ntmps26
  go_wp2_with fail
  rw [← hW2]
  clear hW2
  refine HC.out.mono ?_
  rintro e w3 ⟨d, rfl, R3, K3⟩
  have hv3 := block_kept H0.out.2.1 R3.out
  have hrm := H0.out.1.kept R3.out
  obtain ⟨hth, hrg, hfin⟩ := val_end hrm hv3 (by omega) (by have := H0.out.2.2; omega) K3.out
  have HFIN := Lib.hid hfin
  clear hfin hv3 R3 K3 hrm
  go_wp2_with (refine wpList_store_mid rfl 52 (.tmp 4) (.tmp 30) rfl (W.heap.size + 1) 0 d.cells.toArray rfl rfl hth (by rw [size_value]; rfl) (one_cells _) ?_)
  refine bodyPost_ret (v := .agg #[.bool d.t, .bool d.s, .slice d.z1 d.m1 d.k1, .slice d.z2 d.m2 d.k2]) ?_ rfl HFIN.out
  have := run_loadVar_mid (P := Tryz.prog) _ (W.heap.size + 1) 0 52 _ _ hrg Tryz.underlying52 rfl (by rw [size_value]; rfl)
  simpa [results, Tryz.results26, asAddr, Act.put, RV.cells] using this
set_option maxRecDepth 100000 in
set_option maxHeartbeats 8000000 in
theorem value_18 (h : RkAt W E vs rs) (hk : KAt W ka kids kc) (hin : ∀ x ∈ kids, 0 ≤ x ∧ x < (vs.length : Int)) (hkb : ∀ g off, ka = some ⟨g, off, none⟩ → g ≠ E.b) (h2 : 2 ≤ kids.length) (hs : ∀ v ∈ vs, szQ v.2 ≤ 48) (hsm : FoldSm E.m (fun x y => x + y) vs (numOf vs (kid kids 0)) (kids.drop 1)) (v : Int) (s : Bool) (a1 : Option Addr) (l1 c1 : Nat) (a2 : Option Addr) (l2 c2 : Nat) :
    Calls Tryz.prog 26 #[.pointer (some ⟨E.R, 0, none⟩), .agg #[.int .i64 18, .int .i64 v, .slice ka kids.length kc, .bool s, .slice a1 l1 c1, .slice a2 l2 c2]] W (GotF E.b E.m W (false, Ev.fold (fun x y => x + y) vs (numOf vs (kid kids 0)) (kids.drop 1))) := by
  obtain ⟨W2, hW2, hb2, b1, b2, hs2⟩ := boxes2 W #[.int .i64 18, .int .i64 v, .slice ka kids.length kc, .bool s, .slice a1 l1 c1, .slice a2 l2 c2] #[.bool false, .bool false, .slice none 0 0, .slice none 0 0] 33 52
  have hvb : VB W2 (W.heap.size + 1) zRV.cells := b2
  have H0 := Lib.hid (And.intro (h.roomB hb2) (And.intro hvb h.bl))
  have HC := Lib.hid (fold_any (h.kept hb2) (hk.kept hb2) hkb h2 hin hs (add_fn E.b E.m) hsm)
  obtain ⟨res, hres⟩ : ∃ res, (false, Ev.fold (fun x y => x + y) vs (numOf vs (kid kids 0)) (kids.drop 1)) = res := ⟨_, rfl⟩
  rw [hres] at HC ⊢
  clear h hb2 b1 b2 hs2 hvb hres hk hin hkb h2 hs hsm
  go_enter Tryz.func26, Tryz.ntmps26
  go_wp2_with fail
  rw [← hW2]
  clear hW2
  refine HC.out.mono ?_
  rintro e w3 ⟨d, rfl, R3, K3⟩
  have hv3 := block_room H0.out.2.1 R3.out (by have := H0.out.2.2; omega)
  have hrm := H0.out.1.trans R3.out
  obtain ⟨hth, hrg, hfin⟩ := val_end hrm hv3 (by omega) (by have := H0.out.2.2; omega) K3.out
  have HFIN := Lib.hid hfin
  clear hfin hv3 R3 K3 hrm
  go_wp2_with (refine wpList_store_mid rfl 52 (.tmp 4) (.tmp 36) rfl (W.heap.size + 1) 0 d.cells.toArray rfl rfl hth (by rw [size_value]; rfl) (one_cells _) ?_)
  refine bodyPost_ret (v := .agg #[.bool d.t, .bool d.s, .slice d.z1 d.m1 d.k1, .slice d.z2 d.m2 d.k2]) ?_ rfl HFIN.out
  have := run_loadVar_mid (P := Tryz.prog) _ (W.heap.size + 1) 0 52 _ _ hrg Tryz.underlying52 rfl (by rw [size_value]; rfl)
  simpa [results, Tryz.results26, asAddr, Act.put, RV.cells] using this
set_option maxRecDepth 100000 in
set_option maxHeartbeats 8000000 in
theorem value_19 (h : RkAt W E vs rs) (hk : KAt W ka kids kc) (hin : ∀ x ∈ kids, 0 ≤ x ∧ x < (vs.length : Int)) (hkb : ∀ g off, ka = some ⟨g, off, none⟩ → g ≠ E.b) (h2 : 2 ≤ kids.length) (hs : ∀ v ∈ vs, szQ v.2 ≤ 48) (hsm : FoldSm E.m (fun x y => x - y) vs (numOf vs (kid kids 0)) (kids.drop 1)) (v : Int) (s : Bool) (a1 : Option Addr) (l1 c1 : Nat) (a2 : Option Addr) (l2 c2 : Nat) :
    Calls Tryz.prog 26 #[.pointer (some ⟨E.R, 0, none⟩), .agg #[.int .i64 19, .int .i64 v, .slice ka kids.length kc, .bool s, .slice a1 l1 c1, .slice a2 l2 c2]] W (GotF E.b E.m W (false, Ev.fold (fun x y => x - y) vs (numOf vs (kid kids 0)) (kids.drop 1))) := by
  obtain ⟨W2, hW2, hb2, b1, b2, hs2⟩ := boxes2 W #[.int .i64 19, .int .i64 v, .slice ka kids.length kc, .bool s, .slice a1 l1 c1, .slice a2 l2 c2] #[.bool false, .bool false, .slice none 0 0, .slice none 0 0] 33 52
  have hvb : VB W2 (W.heap.size + 1) zRV.cells := b2
  have H0 := Lib.hid (And.intro (h.roomB hb2) (And.intro hvb h.bl))
  have HC := Lib.hid (difference_any (h.kept hb2) (hk.kept hb2) hkb h2 hin hs hsm)
  obtain ⟨res, hres⟩ : ∃ res, (false, Ev.fold (fun x y => x - y) vs (numOf vs (kid kids 0)) (kids.drop 1)) = res := ⟨_, rfl⟩
  rw [hres] at HC ⊢
  clear h hb2 b1 b2 hs2 hvb hres hk hin hkb h2 hs hsm
  go_enter Tryz.func26, Tryz.ntmps26
  go_wp2_with fail
  rw [← hW2]
  clear hW2
  refine HC.out.mono ?_
  rintro e w3 ⟨d, rfl, R3, K3⟩
  have hv3 := block_room H0.out.2.1 R3.out (by have := H0.out.2.2; omega)
  have hrm := H0.out.1.trans R3.out
  obtain ⟨hth, hrg, hfin⟩ := val_end hrm hv3 (by omega) (by have := H0.out.2.2; omega) K3.out
  have HFIN := Lib.hid hfin
  clear hfin hv3 R3 K3 hrm
  go_wp2_with (refine wpList_store_mid rfl 52 (.tmp 4) (.tmp 42) rfl (W.heap.size + 1) 0 d.cells.toArray rfl rfl hth (by rw [size_value]; rfl) (one_cells _) ?_)
  refine bodyPost_ret (v := .agg #[.bool d.t, .bool d.s, .slice d.z1 d.m1 d.k1, .slice d.z2 d.m2 d.k2]) ?_ rfl HFIN.out
  have := run_loadVar_mid (P := Tryz.prog) _ (W.heap.size + 1) 0 52 _ _ hrg Tryz.underlying52 rfl (by rw [size_value]; rfl)
  simpa [results, Tryz.results26, asAddr, Act.put, RV.cells] using this
end
end Go.Proofs.YthnklohpmcebkaaGreatDoor

set_option linter.unusedVariables false
set_option linter.unusedSimpArgs false
namespace Go.Proofs.YthnklohpmcebkaaGreatDoor
open Go.RowKit Tm Rep Ev
def NodeSm (m : Nat) (vs : List Vl) (n : En) : Prop := (n.op = 18 → FoldSm m (fun x y => x + y) vs (numOf vs (kid n.kids 0)) (n.kids.drop 1)) ∧ (n.op = 19 → 2 ≤ n.kids.length ∧ FoldSm m (fun x y => x - y) vs (numOf vs (kid n.kids 0)) (n.kids.drop 1))
section
variable {W : World} {E : Env} {vs : List Vl} {rs : List RV} {ka : Option Addr} {kc : Nat}
set_option maxRecDepth 100000 in
set_option maxHeartbeats 4000000 in
theorem value_any (h : RkAt W E vs rs) (n : En) (hk : KAt W ka n.kids kc) (hkb : ∀ g off, ka = some ⟨g, off, none⟩ → g ≠ E.b) (hf : Fit E.bools.length E.reals.length vs.length n) (hop : 1 ≤ n.op ∧ n.op ≤ 19) (hs : ∀ v ∈ vs, szQ v.2 ≤ 48) (hsr : ∀ q ∈ E.reals, szQ q ≤ 48)
    (s : Bool) (a1 : Option Addr) (l1 c1 : Nat) (a2 : Option Addr) (l2 c2 : Nat) (hq : n.op = 5 → VQ n.q (s, (a1, l1, c1), (a2, l2, c2)) W ∧ szQ n.q ≤ 48) (hsm : NodeSm E.m vs n) :
    Calls Tryz.prog 26 #[.pointer (some ⟨E.R, 0, none⟩), .agg #[.int .i64 n.op, .int .i64 n.v, .slice ka n.kids.length kc, .bool s, .slice a1 l1 c1, .slice a2 l2 c2]] W (GotF E.b E.m W (Ev.value E.bools E.reals vs n)) := by
  obtain ⟨op, v, kids, q⟩ := n
  obtain ⟨sm1, sm2⟩ := hsm
  obtain ⟨fk, ff, _, _, f3, f4, f6, f10, f11, f13, f12, f19⟩ := hf
  dsimp only at *
  have hs100 : ∀ v ∈ vs, szQ v.2 ≤ 100 := fun v hv => by have := hs v hv; omega
  have hc : op = 1 ∨ op = 2 ∨ op = 3 ∨ op = 4 ∨ op = 5 ∨ op = 6 ∨ op = 7 ∨ op = 8 ∨ op = 9 ∨ op = 10 ∨ op = 11 ∨ op = 12 ∨ op = 13 ∨ op = 14 ∨ op = 15 ∨ op = 16 ∨ op = 17 ∨ op = 18 ∨ op = 19 := by omega
  rcases hc with rfl | rfl | rfl | rfl | rfl | rfl | rfl | rfl | rfl | rfl | rfl | rfl | rfl | rfl | rfl | rfl | rfl | rfl | rfl
  · rw [show Ev.value E.bools E.reals vs ⟨1, v, kids, q⟩ = (true, 0) by simp [Ev.value, Ev.truth]]
    exact value_t1 h (fun W' hW' => truth_1 (h.kept hW') (hk.kept hW') fk v s a1 l1 c1 a2 l2 c2)
  · rw [show Ev.value E.bools E.reals vs ⟨2, v, kids, q⟩ = (false, 0) by simp [Ev.value, Ev.truth]]
    exact value_t2 h (fun W' hW' => truth_2 (h.kept hW') (hk.kept hW') fk v s a1 l1 c1 a2 l2 c2)
  · rw [show Ev.value E.bools E.reals vs ⟨3, v, kids, q⟩ = (E.bools.getD v.toNat false, 0) by simp [Ev.value, Ev.truth]]
    exact value_t3 h (fun W' hW' => truth_3 (h.kept hW') (hk.kept hW') fk (f3 rfl) s a1 l1 c1 a2 l2 c2)
  · rw [show Ev.value E.bools E.reals vs ⟨4, v, kids, q⟩ = (false, E.reals.getD v.toNat 0) by simp [Ev.value, Ev.truth]]
    exact value_4 h hsr v s a1 l1 c1 a2 l2 c2 (f4 rfl)
  · rw [show Ev.value E.bools E.reals vs ⟨5, v, kids, q⟩ = (false, q) by simp [Ev.value, Ev.truth]]
    exact value_5 h v s a1 l1 c1 a2 l2 c2 (hq rfl).1 (hq rfl).2
  · rw [show Ev.value E.bools E.reals vs ⟨6, v, kids, q⟩ = (!isT vs (kid kids 0), 0) by simp [Ev.value, Ev.truth]]
    exact value_t6 h (fun W' hW' => truth_6 (h.kept hW') (hk.kept hW') fk (f6 rfl) v s a1 l1 c1 a2 l2 c2)
  · rw [show Ev.value E.bools E.reals vs ⟨7, v, kids, q⟩ = (kids.all (isT vs), 0) by simp [Ev.value, Ev.truth]]
    exact value_t7 h (fun W' hW' => truth_7 (h.kept hW') (hk.kept hW') fk v s a1 l1 c1 a2 l2 c2)
  · rw [show Ev.value E.bools E.reals vs ⟨8, v, kids, q⟩ = (kids.any (isT vs), 0) by simp [Ev.value, Ev.truth]]
    exact value_t8 h (fun W' hW' => truth_8 (h.kept hW') (hk.kept hW') fk v s a1 l1 c1 a2 l2 c2)
  · rw [show Ev.value E.bools E.reals vs ⟨9, v, kids, q⟩ = (odd vs false kids, 0) by simp [Ev.value, Ev.truth]]
    exact value_t9 h (fun W' hW' => truth_9 (h.kept hW') (hk.kept hW') fk v s a1 l1 c1 a2 l2 c2)
  · rw [show Ev.value E.bools E.reals vs ⟨10, v, kids, q⟩ = (isT vs (kid kids (kids.length - 1)) || !(kids.take (kids.length - 1)).all (isT vs), 0) by simp [Ev.value, Ev.truth]]
    exact value_t10 h (fun W' hW' => truth_10 (h.kept hW') (hk.kept hW') fk (f10 rfl) v s a1 l1 c1 a2 l2 c2)
  · rw [show Ev.value E.bools E.reals vs ⟨11, v, kids, q⟩ = (if isT vs (kid kids 0) = true then vat vs (kid kids 1) else vat vs (kid kids 2)) by simp [Ev.value, Ev.truth]]
    exact value_11 h hk fk (f11 rfl) hs100 v s a1 l1 c1 a2 l2 c2
  · rw [show Ev.value E.bools E.reals vs ⟨12, v, kids, q⟩ = (inOrder (ordB 12) vs kids, 0) by simp [Ev.value, Ev.truth]]
    exact value_t12 h (fun W' hW' => truth_12 (h.kept hW') (hk.kept hW') fk (f12 (by simp)) hs100 v s a1 l1 c1 a2 l2 c2)
  · rw [show Ev.value E.bools E.reals vs ⟨13, v, kids, q⟩ = (inOrder (ordB 14) vs (sort2 vs (kid kids 0) (kid kids 1)), 0) by simp [Ev.value, Ev.truth]]
    exact value_t13 h (fun W' hW' => truth_13 (h.kept hW') (hk.kept hW') fk (f13 rfl) hs100 v s a1 l1 c1 a2 l2 c2)
  · rw [show Ev.value E.bools E.reals vs ⟨14, v, kids, q⟩ = (inOrder (ordB 14) vs kids, 0) by simp [Ev.value, Ev.truth]]
    exact value_t14 h (fun W' hW' => truth_14 (h.kept hW') (hk.kept hW') fk (f12 (by simp)) hs100 v s a1 l1 c1 a2 l2 c2)
  · rw [show Ev.value E.bools E.reals vs ⟨15, v, kids, q⟩ = (inOrder (ordB 15) vs kids, 0) by simp [Ev.value, Ev.truth]]
    exact value_t15 h (fun W' hW' => truth_15 (h.kept hW') (hk.kept hW') fk (f12 (by simp)) hs100 v s a1 l1 c1 a2 l2 c2)
  · rw [show Ev.value E.bools E.reals vs ⟨16, v, kids, q⟩ = (inOrder (ordB 16) vs kids, 0) by simp [Ev.value, Ev.truth]]
    exact value_t16 h (fun W' hW' => truth_16 (h.kept hW') (hk.kept hW') fk (f12 (by simp)) hs100 v s a1 l1 c1 a2 l2 c2)
  · rw [show Ev.value E.bools E.reals vs ⟨17, v, kids, q⟩ = (inOrder (ordB 17) vs kids, 0) by simp [Ev.value, Ev.truth]]
    exact value_t17 h (fun W' hW' => truth_17 (h.kept hW') (hk.kept hW') fk (f12 (by simp)) hs100 v s a1 l1 c1 a2 l2 c2)
  · rw [show Ev.value E.bools E.reals vs ⟨18, v, kids, q⟩ = (false, Ev.fold (fun x y => x + y) vs (numOf vs (kid kids 0)) (kids.drop 1)) by simp [Ev.value, Ev.truth]]
    exact value_18 h hk fk hkb (f12 (by simp)) hs (sm1 rfl) v s a1 l1 c1 a2 l2 c2
  · have h2 := (sm2 rfl).1
    rw [show Ev.value E.bools E.reals vs ⟨19, v, kids, q⟩ = (false, Ev.fold (fun x y => x - y) vs (numOf vs (kid kids 0)) (kids.drop 1)) by simp [Ev.value]; intro e; omega]
    exact value_19 h hk fk hkb h2 hs (sm2 rfl).2 v s a1 l1 c1 a2 l2 c2
end
set_option maxRecDepth 100000 in
set_option maxHeartbeats 4000000 in
theorem areRight_any {W : World} {a : Option Addr} {c : Nat} {rq : List RV} (hm : rq = [] ∨ ∃ g off, a = some ⟨g, off, none⟩ ∧ ∀ (k : Nat) (d : RV), rq[k]? = some d → W.rangeAt g (off + k * 3) d.rat) (hn : rq.length ≤ 1000)
    (hp : ∀ W', Below W.heap.size W W' → ∀ d ∈ rq, Calls Tryz.prog 37 #[.agg #[.bool d.s, .slice d.z1 d.m1 d.k1, .slice d.z2 d.m2 d.k2]] W' (GivesV (.bool true) W')) :
    Calls Tryz.prog 23 #[.slice a rq.length c] W (GivesV (.bool true) W) := by
  have HP := Lib.hid hp
  have HM := Lib.hid hm
  obtain ⟨n, hnn⟩ : ∃ n, rq.length = n := ⟨_, rfl⟩
  have HN := Lib.hid hnn
  rw [hnn] at hn ⊢
  clear hp hm hnn
  go_enter Tryz.func23, Tryz.ntmps23
  go_wp2_with fail
  go_loopw [7] (fun (iv : Value) (wr : World) => ∃ k : Nat, k ≤ n ∧ iv = .int .i64 (k : Int) ∧ Hid (Below W.heap.size W wr)) (fun iv _ => n - (intOf iv).toNat)
  case atStart => exact ⟨0, Nat.zero_le _, rfl, Lib.hid (Below.refl _ _)⟩
  case round =>
    obtain ⟨k, hkn, rfl, HB⟩ := hrel
    by_cases hlt : k < n
    · obtain ⟨d, hd⟩ : ∃ d, rq[k]? = some d := ⟨_, List.getElem?_eq_getElem (by rw [HN.out]; exact hlt)⟩
      obtain ⟨g, off, rfl, hr⟩ : ∃ g off, a = some ⟨g, off, none⟩ ∧ wr.rangeAt g (off + k * 3) d.rat := by
        rcases HM.out with e | ⟨g, off, e, hr⟩
        · subst e; simp at hd
        · exact ⟨g, off, e, rangeAt_kept (hr k d hd) HB.out (rangeAt_lt (hr k d hd) (by simp [RV.rat]))⟩
      have hal := (Below.refl wr.heap.size wr).alloc (Nat.le_refl _) (.cells d.rat.toArray 27)
      have hbw := HB.out.trans (hal.mono HB.out.size)
      have HC := Lib.hid (HP.out _ hbw d (List.mem_of_getElem? hd))
      have HBW := Lib.hid hbw
      have hki : (k : Int) < (n : Int) := by omega
      have hiw : wrap64 ((k : Int) + 1) = (k : Int) + 1 := IntWalk.wrap64_in _ (by omega)
      have hbox := rangeAt_new wr d.rat 27
      clear hd hal hbw
      go_wp2_with (first | (refine wpList_val (.agg #[.bool d.s, .slice d.z1 d.m1 d.k1, .slice d.z2 d.m2 d.k2]) (run_load_op 27 (.tmp 9) (by with_reducible rfl) g (off + k * 3) (by rfl) d.rat _ hr Tryz.underlying27 rfl (by rw [size_ratio]; rfl)) (by rfl) ?_) | (with_reducible refine wpList_alloc_agg rfl 27 rfl zRat zero_rat ?_) | (refine wpList_store_new rfl 27 (.tmp 4) (.tmp 10) (by with_reducible rfl) wr zRat d.rat.toArray (by rfl) (by rfl) (by rfl) (by rw [size_ratio]; rfl) (by rfl) (one_rat d) ?_) | (refine wpList_val (.agg #[.bool d.s, .slice d.z1 d.m1 d.k1, .slice d.z2 d.m2 d.k2]) (run_load_op 27 (.tmp 4) (by with_reducible rfl) wr.heap.size 0 (by rfl) d.rat _ hbox Tryz.underlying27 rfl (by rw [size_ratio]; rfl)) (by rfl) ?_))
      refine HC.out.mono ?_
      rintro e w3 ⟨rfl, hb3⟩
      have HB3 := Lib.hid (HBW.out.trans (hb3.mono HBW.out.size))
      clear hb3
      go_wp2_with fail
      go_roundw
      case rel => exact ⟨k + 1, by omega, by go_num, HB3⟩
      case measure => simp [intOf]; omega
    · obtain rfl : k = n := by omega
      go_wp2_with fail
      go_ret
      exact GivesV.mk' rfl HB.out
theorem wpList_mp10 {P : Program} {w : World} {t k e : TypeId} {ops : Array Oper} {Q : Exit → Act → World → Prop} {a : Act} {rest : List Oper} {o : Oper} (hg : o.guard = none) (m x v : Operand) (ho : o.op = .insert t m x v)
    (ht : P.underlying t = some (.map k e)) (hk : P.underlying k = some (.int .i64)) (b : Nat) (hm : a.eval m = .map (some b)) (y : Int) (hx : a.eval x = .int .i64 y) (u : Value) (hv : a.eval v = u) (M : List (Int × Value)) (w0 : World) (hs : Hid (IM w b M ∧ Below w0.heap.size w0 w ∧ w0.heap.size ≤ b))
    (h : ∀ w', Hid (IM w' b (updI M y u) ∧ Below w0.heap.size w0 w' ∧ w0.heap.size ≤ b) → wpList P ops Q rest (a.put o.dst undef) w') : wpList P ops Q (o :: rest) a w :=
  wpList_upd hg m x v (.inr ho) ht hk _ hm y hx u hv M hs.out.1 fun w' hi hc => h w' (Lib.hid ⟨hi, hs.out.2.1.trans (hc.below (fun k hk => by rw [hk]; exact hs.out.2.2) hs.out.2.1.size), hs.out.2.2⟩)
set_option maxRecDepth 100000 in
set_option maxHeartbeats 4000000 in
theorem orders_any (w : World) : Calls Tryz.prog 38 #[] w (fun e w' => e = .returned (.map (some (w.heap.size + 1))) ∧ OrAt w' (w.heap.size + 1) w.heap.size ∧ Below w.heap.size w w') := by
  have hmm := @run_makeMap Tryz.prog
  have hst := fun (w : World) (a : Addr) (fn : Fn) (x y : Array Value) (m : Mode) => run_store Tryz.prog w a (.func fn x y) m rfl
  obtain ⟨w1, hw1⟩ : ∃ w1, w1 = w.alloc (.cells #[.func (.func 65) #[] #[]] 122) := ⟨_, rfl⟩
  have hb1 : Below w.heap.size w w1 := by rw [hw1]; exact (Below.refl _ _).alloc (Nat.le_refl _) _
  have hL : w1.heap[w.heap.size]? = some (.cells #[.func (.func 65) #[] #[]] 122 (0, 0)) := by rw [hw1]; exact heap_alloc_new w _
  have hs1 : w1.heap.size = w.heap.size + 1 := by rw [hw1]; simp
  have hcl : w1.cell? ⟨w.heap.size, 0, none⟩ = some (.func (.func 65) #[] #[]) := by simp [World.cell?, hL]
  have HCL := Lib.hid hcl
  have h0 : Hid (IM (w1.alloc (.map #[] 0)) (w.heap.size + 1) [] ∧ Below w1.heap.size w1 (w1.alloc (.map #[] 0)) ∧ w1.heap.size ≤ w.heap.size + 1) := Lib.hid ⟨by rw [← hs1]; exact IM.made w1, (Below.refl _ _).alloc (Nat.le_refl _) _, by omega⟩
  have hcl0 : (w1.alloc (.map #[] 0)).cell? ⟨w.heap.size, 0, none⟩ = some (.func (.func 65) #[] #[]) := cell_kept hcl ((Below.refl _ _).alloc (Nat.le_refl _) _)
  have H1 := Lib.hid (And.intro hb1 (And.intro hL hs1))
  clear hb1 hL hs1
  subst hw1
  go_enter Tryz.func38, Tryz.ntmps38
  go_wp2_with (refine wpList_mp10 rfl (.tmp 2) _ _ (by with_reducible rfl) Tryz.underlying75 Tryz.underlying3 (w.heap.size + 1) (by rfl) _ (by rfl) _ (by rfl) _ _ (by assumption) ?_; intro w' hM'; have hcl' := cell_kept HCL.out hM'.out.2.1)
  have he : ∀ M, M = ordL w.heap.size → IM w' (w.heap.size + 1) M → IM w' (w.heap.size + 1) (ordL w.heap.size) := fun M e h => e ▸ h
  have hi := he _ (by rfl) hM'.out.1
  have hbl := hM'.out.2.1
  have HFIN : Hid (OrAt w' (w.heap.size + 1) w.heap.size ∧ Below w.heap.size w w') := Lib.hid ⟨⟨hi, (hbl.block _ (by rw [H1.out.2.2]; omega)).trans H1.out.2.1⟩, H1.out.1.trans (hbl.mono H1.out.1.size)⟩
  go_ret
  exact ⟨rfl, HFIN.out⟩
end Go.Proofs.YthnklohpmcebkaaGreatDoor
