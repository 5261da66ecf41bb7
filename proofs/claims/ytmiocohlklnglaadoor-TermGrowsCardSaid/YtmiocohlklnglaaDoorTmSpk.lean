/-
  Layer 9: the document's example.
-/
import Derived.Test.YtmiocohlklnglaaDoorTmAdds
set_option linter.unusedVariables false
set_option linter.unusedSimpArgs false
namespace Go.Proofs.YtmiocohlklnglaaDoor
open Go.RowKit Tm

/-- A node without a number. -/
theorem bare_node (W : World) {x v : Int} (h5 : x ≠ 5) : NodeAt W ⟨x, v, [], true, false⟩ none 0 false none 0 0 none 0 0 :=
  ⟨KAt.nil W, rfl, Cel.nil W, Cel.nil W, fun h => absurd h h5⟩
def sp0 : Nd := ⟨4, 0, [], true, false⟩
def sp1 : Nd := ⟨4, 1, [], true, false⟩
def sp2 : Nd := ⟨20, 0, [0, 1], true, false⟩
def sg0 : Ru := ⟨-1, 1, []⟩
def sg1 : Ru := ⟨-1, 1, [(2, false)]⟩
def sg2 : Ru := ⟨-1, 1, [(2, false), (2, false)]⟩
theorem spk_pure : codeOf sg0 sp0 = 0 ∧ next sg0 sp0 = sg1 ∧ codeOf sg1 sp1 = 0 ∧ next sg1 sp1 = sg2 ∧ codeOf sg2 sp2 = 16 ∧ next sg2 sp2 = sg2 ∧ (kindOf sg2.ks 1).1 = 2 := by
  refine ⟨by decide, rfl, by decide, rfl, by decide, rfl, by decide⟩
/-- Add, where what comes of it is known. -/
def Added (w : World) (B T R mo mg : Nat) (kv nv : Value) (at_ : Int) (code : Int) (g' : Ru) (e : Ending) (w' : World) : Prop :=
  e = .returned (.tuple #[.int .i64 at_, .int .i64 code]) ∧ ∃ kv' nv', TmAt w' B T R mo mg kv' nv' g' ∧ Chg (fun j => j = T ∨ j = R ∨ kv.ownBlock = some j ∨ nv.ownBlock = some j) w w'
theorem AddIs.says {w w' : World} {B T R mo mg : Nat} {kv nv : Value} {g g' : Ru} {n : Nd} {e : Ending} {c : Nat} {x y : Int} (h : AddIs w B T R mo mg kv nv g n e w') (hc : codeOf g n = c) (hx : next g n = g') (hy : (if c = 0 then (g.ks.length : Int) else 0) = x) (hcy : (c : Int) = y) : Added w B T R mo mg kv nv x y g' e w' := by
  obtain ⟨h1, h2⟩ := h
  rw [hc, hy, hcy] at h1
  rw [hx] at h2
  exact ⟨h1, h2⟩
/-- Kids in a block of their own stay, whatever Terms do. -/
theorem kids_stay {w W : World} {B T R mo mg b : Nat} {kv nv : Value} {g : Ru} (h : TmAt w B T R mo mg kv nv g) {C : List Value} (hb : w.heap[b]? = some (.cells C.toArray 3 (0, 0))) (hc : Chg (fun j => j = T ∨ j = R ∨ kv.ownBlock = some j ∨ nv.ownBlock = some j) w W) : W.heap[b]? = some (.cells C.toArray 3 (0, 0)) := by
  refine (hc.block b (Array.getElem?_eq_some_iff.1 hb).1 ?_).trans hb
  rintro (e | e | e | e)
  · exact tag_ne hb h.head (by decide) e
  · exact tag_ne hb h.ru.head (by decide) e
  · exact own_ne h.ru.row hb (by decide) e
  · obtain ⟨xs, hx⟩ := h.row
    exact own_ne hx hb (by decide) e
theorem two_kids {W : World} {b : Nat} {x y : Int} (hb : W.heap[b]? = some (.cells [Value.int .i64 x, .int .i64 y].toArray 3 (0, 0))) : KAt W (some ⟨b, 0, none⟩) [x, y] 2 :=
  ⟨.inr ⟨b, 0, rfl, fun j u hu => by
    simp only [World.cell?, hb, Nat.zero_add]
    simpa [i64s] using hu⟩, Nat.le_refl _, by omega, fun e => (by cases e), by simp⟩
set_option maxRecDepth 100000 in
set_option maxHeartbeats 8000000 in
theorem speaks_any (w : World) : Calls Tryd.prog 5 #[] w (GivesV (.bool true) w) := by
  obtain ⟨p1, p2, p3, p4, p5, p6, p7⟩ := spk_pure
  have HP := Lib.hid (And.intro p1 (And.intro p2 (And.intro p3 (And.intro p4 (And.intro p5 (And.intro p6 p7))))))
  clear p1 p2 p3 p4 p5 p6 p7
  have HN := Lib.hid (New_any w 0 2 (by omega) (by omega))
  go_enter Tryd.func5, Tryd.ntmps5
  go_wp2_with fail
  refine HN.out.mono ?_
  rintro e w1 ⟨T, R, mo, mg, rfl, h1, hb1⟩
  have hg0 : startRu 0 2 = sg0 := rfl
  rw [hg0] at h1
  have HB1 := Lib.hid hb1
  have HA1 := Lib.hid ((Add_any h1 (n := sp0) (fun W _ => bare_node W (by decide)) hb1.size).mono (fun e w' h => h.says HP.out.1 HP.out.2.1 (x := 0) (y := 0) rfl rfl))
  have HLO := Lib.hid h1.ru.low
  have HLT := Lib.hid h1.low
  clear hb1 h1 hg0
  go_wp2_with fail
  refine HA1.out.mono ?_
  rintro e w2 ⟨rfl, kv1, nv1, h2, hc2⟩
  have hb2 : Below w.heap.size w w2 := HB1.out.trans (hc2.below (by
    rintro k (e | e | e | e)
    · rw [e]; exact HLT.out
    · rw [e]; exact HLO.out.1
    · simp [Value.ownBlock] at e
    · simp [Value.ownBlock] at e) HB1.out.size)
  have HB2 := Lib.hid hb2
  have HA2 := Lib.hid ((Add_any h2 (n := sp1) (fun W _ => bare_node W (by decide)) hb2.size).mono (fun e w' h => h.says HP.out.2.2.1 HP.out.2.2.2.1 (x := 1) (y := 0) rfl rfl))
  have HT2 := Lib.hid h2
  clear hb2 h2 hc2 HA1
  go_wp2_with fail
  refine HA2.out.mono ?_
  rintro e w3 ⟨rfl, kv2, nv2, h3, hc3⟩
  have hb3 : Below w.heap.size w w3 := HB2.out.trans (hc3.below (by
    rintro k (e | e | e | e)
    · rw [e]; exact HLT.out
    · rw [e]; exact HLO.out.1
    · exact (own_tag HT2.out.ru.row e).1
    · obtain ⟨xs, hx⟩ := HT2.out.row
      exact (own_tag hx e).1) HB2.out.size)
  have hal := (Below.refl w3.heap.size w3).alloc (Nat.le_refl _) (.cells #[.int .i64 0, .int .i64 1] 3)
  have h4 := h3.kept hal
  have hk4 := heap_alloc_new w3 (.cells [Value.int .i64 0, .int .i64 1].toArray 3)
  have hb4 : Below w.heap.size w (w3.alloc (.cells #[.int .i64 0, .int .i64 1] 3)) := hb3.trans (hal.mono hb3.size)
  have HB4 := Lib.hid hb4
  have HA3 := Lib.hid ((Add_any h4 (n := sp2) (ka := some ⟨w3.heap.size, 0, none⟩) (kc := 2) (s := false) (a1 := none) (l1 := 0) (c1 := 0) (a2 := none) (l2 := 0) (c2 := 0)
    (fun W hW => ⟨two_kids (kids_stay h4 hk4 hW), rfl, Cel.nil W, Cel.nil W, fun h => absurd h (by decide)⟩) hb4.size).mono (fun e w' h => h.says HP.out.2.2.2.2.1 HP.out.2.2.2.2.2.1 (x := 0) (y := 16) rfl rfl))
  have HT4 := Lib.hid h4
  clear hb3 h3 hc3 HA2 hal h4 hk4 hb4
  go_wp2_with fail
  refine HA3.out.mono ?_
  rintro e w5 ⟨rfl, kv3, nv3, h5, hc5⟩
  have hb5 : Below w.heap.size w w5 := HB4.out.trans (hc5.below (by
    rintro k (e | e | e | e)
    · rw [e]; exact HLT.out
    · rw [e]; exact HLO.out.1
    · exact (own_tag HT4.out.ru.row e).1
    · obtain ⟨xs, hx⟩ := HT4.out.row
      exact (own_tag hx e).1) HB4.out.size)
  have HB5 := Lib.hid hb5
  have HS := Sort_any h5 1
  rw [HP.out.2.2.2.2.2.2] at HS
  have HSS := Lib.hid HS
  clear hb5 h5 hc5 HA3 HS
  go_wp2_with fail
  refine HSS.out.mono ?_
  rintro e w6 ⟨rfl, hb6⟩
  have HB6 := Lib.hid (HB5.out.trans (hb6.mono HB5.out.size))
  clear hb6
  go_wp2_with fail
  go_ret
  exact GivesV.mk' rfl HB6.out
end Go.Proofs.YtmiocohlklnglaaDoor
