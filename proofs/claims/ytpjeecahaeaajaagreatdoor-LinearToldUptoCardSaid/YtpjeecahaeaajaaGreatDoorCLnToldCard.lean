/- By program out of: LnToldCard. -/
import Derived.Test.YtpjeecahaeaajaaGreatDoorMbohphd
import Derived.Test.YtpjeecahaeaajaaGreatDoorMfoecdg
import Derived.Test.YtpjeecahaeaajaaGreatDoorMpjgkim
import Derived.Deep.DeepWitnessRowRef
set_option linter.unusedVariables false
set_option linter.unusedSimpArgs false
namespace Go.Proofs.YtpjeecahaeaajaaGreatDoor.linearToldUpto
open Go.ChangeShapes Go.WideShapes Go.ChangeAt Go.RowKit Rep Ln
def noArgs : Array Value := #[.agg #[.bool false, .slice none 0 0, .slice none 0 0, .slice none 0 0], .agg #[.bool false, .slice none 0 0, .slice none 0 0, .slice none 0 0], zeroV, .slice none 0 0, .int .i64 0]
set_option maxRecDepth 1000000 in
theorem laid_met (os : Os) : laidMet Tryz.prog Rows.linearToldUptoRow.laid ((laidWorldL os).forCall (fun _ _ => 0) ⟨#[], noArgs, []⟩).memory :=
 laidMet_of_run' 8 (by kernel_rfl) (by kernel_rfl)
set_option maxRecDepth 100000 in
theorem witness_row (os : Os) {H : Type} (enc : TypeId × Value → H) :
    (Rows.OpenSpec.upto Rows.linearToldSpec).preRow enc Tryz.prog Tryz.f3 Rows.linearToldUptoRow.domain false Rows.linearToldUptoRow.laid ((laidWorldL os).forCall (fun _ _ => 0) ⟨#[], noArgs, []⟩).memory noArgs := by
 have hw : (DataW.whole enc Tryz.prog ((laidWorldL os).forCall (fun _ _ => 0) ⟨#[], noArgs, []⟩).memory Tryz.f3.params.toList Rows.linearToldSpec.vars false noArgs.toList 8).map (fun x => (x.1, x.2.1)) =
     some ([.agg [.agg [.agg [.lit (.bool false), .nil], .nil], .nil], .agg [.agg [.agg [.lit (.bool false), .nil], .nil], .nil], .agg [.agg [.lit (.bool false), .nil], .nil], .nil, .lit (.int .i64 0)], []) := by kernel_rfl
 obtain ⟨⟨x1, x2, x3⟩, hx, hx1⟩ := Option.map_eq_some_iff.1 hw
 simp only [Prod.mk.injEq] at hx1
 obtain ⟨rfl, rfl⟩ := hx1
 exact OpenSpec.preRow_of_cond 8 hx (by kernel_rfl) (fun k hk => by cases hk; kernel_rfl) (by kernel_rfl) (laid_met os)
set_option maxRecDepth 100000 in
theorem lifted (os : Os) (started : os.Started) (H : Type) (enc : TypeId × Value → H) (F : Stop.Interp) :
    ReturnsInHanded {} Tryz.checked os 3 .any ((Rows.OpenSpec.upto Rows.linearToldSpec).preRow enc Tryz.prog Tryz.f3 Rows.linearToldUptoRow.domain false Rows.linearToldUptoRow.laid)
     (((Rows.OpenSpec.upto Rows.linearToldSpec).at F).post enc Tryz.prog Tryz.f3 false true false false) := by
 refine returnsInHanded_of_row (C := Tryz.checked) (s := Rows.OpenSpec.upto Rows.linearToldSpec) own_knob started (by kernel_rfl) Tryz.func3
  (witness_row_atRef (enc := enc) (C := Tryz.checked) false (laidWorldL os) noArgs rfl (by kernel_rfl) (by kernel_rfl) (by kernel_rfl) (witness_row os enc)) ?_
 intro W base args ds gs before hval0 hW _ hcond _ hL _ _
 have hval : ∀ (j : Nat) t v, Tryz.f3.params[j]? = some t → args[j]? = some v → Value.okWide Tryz.prog W .any base t v := hval0
 clear hval0
 have hW' := hW
 obtain ⟨p, q, hA0, hV, rfl, _, _⟩ := hW
 have hA : DataW.TrodAll enc Tryz.prog W 0 (fun _ => true) true Tryz.f3.params.toList args.toList ds p := hA0
 clear hA0
 rw [Tryz.params3] at hA hval
 obtain ⟨v0, v1, v2, v3, v4, d0, d1, d2, d3, d4, p0, p1, p2, p3, p4, rfl, rfl, rfl, h0, h1, h2, h3, h4⟩ := trodAll_five12 hA
 obtain ⟨rfl, rfl⟩ := trodVars_none hV
 have hbulk := upto_all (hcond _ rfl)
 simp only [List.append_nil, Rows.uptoBulkAll] at hbulk
 obtain ⟨s0, a0, c0, xs0, b0, e0, ds0, m0, n0, hs0, rfl, hx0⟩ := open_poly (hval 0 30 v0 rfl rfl) h0 (by omega)
 obtain ⟨s1, a1, c1, xs1, b1, e1, ds1, m1, n1, hs1, rfl, hx1⟩ := open_poly (hval 1 30 v1 rfl rfl) h1 (by omega)
 obtain ⟨s2, a2, c2, xs2, b2, e2, ds2, rfl, hx2⟩ := open_ratB (hval 2 27 v2 rfl rfl) h2 (by omega)
 obtain ⟨ra3, rc3, rr3, rfl, hr3⟩ := open_rats (hval 3 31 v3 rfl rfl) h3 (by omega)
 obtain ⟨n4, rfl, rfl, rfl, hn4⟩ := open_int Tryz.underlying3 (hval 4 3 v4 rfl rfl) h4
 have hT : Tab W := tab_of_laid hL (by kernel_rfl) (by first | exact .head _ | exact .tail _ (.head _) | exact .tail _ (.tail _ (.head _)) | exact .tail _ (.tail _ (.tail _ (.head _))))
 refine (told12_walk hx0 hx1 hx2 hr3 hT).mono ?_
 rintro e W' ⟨rfl, hb⟩
 exact ⟨_, rfl, post_true hW' rfl rfl (by kernel_rfl) rfl hb⟩
theorem said : Rows.LinearToldUptoSaid :=
 OpenClaim.holds_of_cond 3 Tryz.f3 rfl rfl rfl rfl rfl rfl rfl ⟨rfl, rfl, rfl, rfl, rfl⟩ rfl rfl rfl rfl rfl (by kernel_rfl) Tryz.func3 (by kernel_rfl)
  (of_decide_eq_true (by kernel_rfl)) (by unfold Func.isWrapper; first | (rw [if_pos (by decide +kernel)]; kernel_rfl) | (rw [if_neg (by decide +kernel)]; exact ⟨rfl, rfl⟩))
  (fun os started H enc _ F => by rw [OpenClaim.pre_eq_preRow]; exact lifted os started H enc F)
theorem plain (f : FuncId) (fn : Func) (hf : Tryz.pinned.checked.prog.funcNamed "steelyard/steelyardlaw12.LinearTold" = some f) (hfn : Tryz.pinned.checked.prog.funcs[f]? = some fn) :
    false = Tryz.pinned.checked.prog.looks [] ∧ ∀ (j : Nat) t, fn.params[j]? = some t → Tryz.pinned.checked.prog.wantsStandIn t = false := by
 obtain rfl : f = 3 := Option.some.inj ((show Tryz.prog.funcNamed "steelyard/steelyardlaw12.LinearTold" = some 3 by kernel_rfl).symm.trans hf) |>.symm
 obtain rfl : fn = Tryz.f3 := (Option.some.inj (Tryz.func3.symm.trans hfn)).symm
 refine ⟨by kernel_rfl, fun j t ht => ?_⟩
 have h : (Tryz.f3.params.toList.all fun t => !(Tryz.prog.wantsStandIn t)) = true := by kernel_rfl
 have := List.all_eq_true.1 h t (Array.mem_toList_iff.2 (Array.mem_of_getElem? ht))
 exact (Bool.not_eq_true' _).mp this
theorem card : Rows.LinearToldUptoCardSaid :=
 Claim7.holds_tied_plain_at .later [] _ _ _ _ said (fun _ h => by cases h) (by kernel_rfl) (fun _ h => by cases h) linearToldUpto_row_tie rfl ⟨rfl, rfl⟩ (by kernel_rfl) rfl plain (by kernel_rfl)
end Go.Proofs.YtpjeecahaeaajaaGreatDoor.linearToldUpto
