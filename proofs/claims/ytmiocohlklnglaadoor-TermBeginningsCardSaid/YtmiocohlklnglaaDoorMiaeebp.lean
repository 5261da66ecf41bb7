/- By program out of: TmNodes, TmBegins. -/
import Derived.Test.YtmiocohlklnglaaDoorMbknfnd
import Derived.Test.YtmiocohlklnglaaDoorMepmjoa
import Derived.Test.YtmiocohlklnglaaDoorMmmcdjl
/-
  Layer 9: nodes that are handed in; Great, Right.
-/
set_option linter.unusedVariables false
set_option linter.unusedSimpArgs false
namespace Go.Proofs.YtmiocohlklnglaaDoor
open Go.RowKit Tm Rep

/-- A node as it is handed in. -/
structure HN where
  op : Int
  v : Int
  ka : Option Addr
  kc : Nat
  kids : List Int
  s : Bool
  a1 : Option Addr
  c1 : Nat
  xs : List Nat
  a2 : Option Addr
  c2 : Nat
  ds : List Nat
def HN.cells (d : HN) : List Value := [.int .i64 d.op, .int .i64 d.v, .slice d.ka d.kids.length d.kc, .bool d.s, .slice d.a1 d.xs.length d.c1, .slice d.a2 d.ds.length d.c2]
def HN.nd (d : HN) : Nd := ⟨d.op, d.v, d.kids, !d.s && decide (d.xs.length = 0) && decide (d.ds.length = 0), rightB d.s d.xs d.ds⟩
structure HandN (w : World) (d : HN) : Prop where
  kids : KIn w d.ka d.kids d.kc
  num : HandR w d.a1 d.c1 d.xs d.a2 d.c2 d.ds
/-- Is it greater than what is looked at? -/
def HN.great (d : HN) : Bool := decide (12 < d.kids.length) || (decide (6 < d.xs.length) || decide (6 < d.ds.length))
structure NodesIn (W : World) (a : Option Addr) (ts : List HN) : Prop where
  mem : ts = [] ∨ ∃ g off, a = some ⟨g, off, none⟩ ∧ ∀ (k : Nat) (p : HN), ts[k]? = some p → W.rangeAt g (off + k * 6) p.cells
  each : ∀ p ∈ ts, HandN W p
theorem KIn.kept {w w' : World} {a : Option Addr} {xs : List Int} {c : Nat} (h : KIn w a xs c) (hb : Below w.heap.size w w') : KIn w' a xs c := by
  refine ⟨?_, h.cap, h.capped, h.mid⟩
  rcases h.at_ with e | ⟨g, off, e, h⟩
  · exact .inl e
  · exact .inr ⟨g, off, e, fun j u hu => (hb.cell (p := ⟨g, off + j, none⟩) (World.block_lt_of_cell? _ _ (h j u hu))).trans (h j u hu)⟩
theorem cel_of_handed {w : World} {a : Option Addr} {c : Nat} {xs : List Nat} (h : Handed w a c xs) (hf : xs.length ≤ 1000000) : Cel w a xs.length c := by
  refine ⟨?_, hf⟩
  rcases h.reads with e | ⟨g, off, e, hr⟩
  · exact .inl (by simpa using e)
  · exact .inr ⟨g, off, xs.map u32v, e, by simp, fun j u hu => hr j u hu, one_u32⟩
theorem HandN.kept {w w' : World} {d : HN} (h : HandN w d) (hb : Below w.heap.size w w') : HandN w' d := ⟨h.kids.kept hb, h.num.kept hb⟩
theorem HandN.node {w : World} {d : HN} (h : HandN w d) (hg : d.great = false) (hT : Tab w) : NodeAt w d.nd d.ka d.kc d.s d.a1 d.xs.length d.c1 d.a2 d.ds.length d.c2 := by
  unfold HN.great at hg
  simp only [Bool.or_eq_false_iff, decide_eq_false_iff_not] at hg
  obtain ⟨g1, g2, g3⟩ := hg
  refine ⟨⟨h.kids.at_, h.kids.cap, h.kids.capped, h.kids.mid, ?_⟩, rfl, cel_of_handed h.num.num (by omega), cel_of_handed h.num.den (by omega), fun _ W hW => RightP_any (h.num.kept hW) (hT.kept hW) (by omega) (by omega)⟩
  show d.kids.length ≤ 1000000
  omega
theorem runs_stop {g : Ru} {l : List Nd} {k : Nat} {n : Nd} (hn : l[k]? = some n) (hc : codeOf (after g (l.take k)) n ≠ 0) : runs g l = false := by
  cases h : runs g l with
  | false => rfl
  | true => exact absurd (runs_at h hn) hc
theorem runs_step {g : Ru} {l : List Nd} {k : Nat} {n : Nd} (hr : runs g (l.take k) = true) (hn : l[k]? = some n) (hc : codeOf (after g (l.take k)) n = 0) : runs g (l.take (k + 1)) = true := by
  have hk : k < l.length := (List.getElem?_eq_some_iff.1 hn).1
  have : l[k] = n := by rw [List.getElem?_eq_getElem hk] at hn; exact Option.some.inj hn
  rw [List.take_succ_eq_append_getElem hk, this, runs_app, hr]
  unfold runs
  rw [if_pos hc]
  rfl
def zNode : Array Value := #[.int .i64 0, .int .i64 0, .slice none 0 0, .bool false, .slice none 0 0, .slice none 0 0]
theorem zero_node (w : World) : (zeroValue 39).run Tryd.prog w = .ok (.agg zNode) w := by unfold zNode; go_simp
theorem hn_one (d : HN) : d.cells.toArray.all (·.oneCell') = true := by
  refine all_oneCell_toArray ?_
  intro u hu
  simp only [HN.cells, List.mem_cons, List.not_mem_nil, or_false] at hu
  rcases hu with rfl | rfl | rfl | rfl | rfl | rfl <;> rfl
set_option maxRecDepth 100000 in
set_option maxHeartbeats 8000000 in
theorem TRight_any {w : World} {a : Option Addr} {c : Nat} {ts : List HN} (hl : NodesIn w a ts) (hT : Tab w) (hs : ∀ d ∈ ts, d.great = false) (hlen : ts.length ≤ 1000) (b r : Int) (hb : b ≤ 9223372036854775807) (hr : r ≤ 9223372036854775807) :
    Calls Tryd.prog 11 #[.slice a ts.length c, .int .i64 b, .int .i64 r] w (GivesV (.bool (runs (startRu b r) (ts.map HN.nd))) w) := by
  have HN0 := Lib.hid (newRules_any w b r hb hr)
  have HND : Hid (∀ (k : Nat) (d : HN), ts[k]? = some d → (∃ g off, a = some ⟨g, off, none⟩ ∧ ∀ W, Below w.heap.size w W → W.rangeAt g (off + k * 6) d.cells) ∧ (∀ W, Below w.heap.size w W → NodeAt W d.nd d.ka d.kc d.s d.a1 d.xs.length d.c1 d.a2 d.ds.length d.c2)) := Lib.hid fun k d hd => by
    have hm := List.mem_of_getElem? hd
    refine ⟨?_, fun W hW => ((hl.each d hm).kept hW).node (hs d hm) (hT.kept hW)⟩
    rcases hl.mem with e | ⟨g, off, e, h⟩
    · subst e; simp at hd
    · exact ⟨g, off, e, fun W hW => rangeAt_kept (h k d hd) hW (rangeAt_lt (h k d hd) (by simp [HN.cells]))⟩
  obtain ⟨n, hn⟩ : ∃ n, ts.length = n := ⟨_, rfl⟩
  have HLN := Lib.hid hn
  rw [hn] at hlen ⊢
  obtain ⟨g0, hg0⟩ : ∃ g0, startRu b r = g0 := ⟨_, rfl⟩
  have hks0 : g0.ks = [] := by rw [← hg0]; rfl
  have HG0 := Lib.hid hg0
  rw [hg0]
  clear hl hT hs hb hr hn hg0 hks0
  go_enter Tryd.func11, Tryd.ntmps11
  go_wp2_with fail
  refine HN0.out.mono ?_
  rintro e w1 ⟨R, mo, mg, rfl, hru⟩
  rw [HG0.out] at hru
  have HRU := Lib.hid hru
  clear hru
  go_wp2_with fail
  go_loopw [15] (fun (iv : Value) (wr : World) => ∃ k : Nat, k ≤ n ∧ iv = .int .i64 (k : Int) ∧ Hid (∃ kv, RuAt wr w.heap.size R mo mg kv (after g0 ((ts.map HN.nd).take k)) ∧ runs g0 ((ts.map HN.nd).take k) = true ∧ Below w.heap.size w wr)) (fun iv _ => n - (intOf iv).toNat)
  case atStart => exact ⟨0, Nat.zero_le _, rfl, Lib.hid ⟨_, HRU.out.ru, rfl, HRU.out.below⟩⟩
  case round =>
    obtain ⟨k, hkn, rfl, HI⟩ := hrel
    by_cases hlt : k < n
    · obtain ⟨kv, hru, hrun, hbw⟩ := HI.out
      obtain ⟨d, hd⟩ : ∃ d, ts[k]? = some d := ⟨_, List.getElem?_eq_getElem (by rw [HLN.out]; exact hlt)⟩
      obtain ⟨⟨g, off, rfl, hrange⟩, hnode⟩ := HND.out k d hd
      have hrg := hrange wr hbw
      have hdn : (ts.map HN.nd)[k]? = some d.nd := by rw [List.getElem?_map, hd]; rfl
      obtain ⟨g1, hg1⟩ : ∃ g1, after g0 ((ts.map HN.nd).take k) = g1 := ⟨_, rfl⟩
      have HAF := Lib.hid (And.intro hg1 (And.intro hdn (And.intro hrun hbw)))
      rw [hg1] at hru
      have hal := (Below.refl wr.heap.size wr).alloc (Nat.le_refl _) (.cells d.cells.toArray 39)
      have HTK := Lib.hid (take_any (hru.kept hal) (hnode _ (hbw.trans (hal.mono hbw.size))) (Nat.le_trans hbw.size hal.size))
      have HRW := Lib.hid (And.intro hru hal)
      have HBOX := rangeAt_new wr d.cells 39
      have hki : (k : Int) < (n : Int) := by omega
      have hiw : wrap64 ((k : Int) + 1) = (k : Int) + 1 := IntWalk.wrap64_in _ (by omega)
      have hsz : d.cells.length = 6 := rfl
      clear hru hrun hbw hrange hnode hd hdn hg1 HI hal
      have e6 : ∀ q : Nat, d.cells.toArray = #[.int .i64 d.op, .int .i64 d.v, .slice d.ka d.kids.length d.kc, .bool d.s, .slice d.a1 d.xs.length d.c1, .slice d.a2 d.ds.length d.c2] := fun _ => rfl
      have HE6 := Lib.hid e6
      clear e6
      go_wp2_with (first | (refine wpList_val (.agg d.cells.toArray) (run_load_op 39 (.tmp 17) (by with_reducible rfl) g (off + k * 6) (by rfl) d.cells _ hrg Tryd.underlying39 rfl (by rw [size_node]; rfl)) (by rfl) ?_) | (with_reducible refine wpList_alloc_agg rfl 39 rfl zNode zero_node ?_) | (refine wpList_store_new rfl 39 (.tmp 9) (.tmp 18) (by with_reducible rfl) wr zNode d.cells.toArray (by rfl) (by rfl) (by rfl) (by rw [size_node]; rfl) (by rfl) (hn_one d) ?_) | (refine wpList_val (.agg d.cells.toArray) (run_load_op 39 (.tmp 9) (by with_reducible rfl) wr.heap.size 0 (by rfl) d.cells _ HBOX Tryd.underlying39 rfl (by rw [size_node]; rfl)) (by rfl) ?_))
      refine HTK.out.mono ?_
      rintro e w3 ⟨rfl, kv3, h3, hc3, _⟩
      have hbel : Below w.heap.size w w3 := (HAF.out.2.2.2.trans (HRW.out.2.mono HAF.out.2.2.2.size)).trans (hc3.below (by
        rintro j (e | e)
        · rw [e]; exact HRW.out.1.low.1
        · exact (own_tag HRW.out.1.row e).1) (Nat.le_trans HAF.out.2.2.2.size HRW.out.2.size))
      have HBE := Lib.hid hbel
      have H3 := Lib.hid h3
      clear hbel h3 hc3
      by_cases hcode : codeOf g1 d.nd = 0
      · have HC := Lib.hid hcode
        rw [hcode]
        clear hcode
        go_wp2_with fail
        go_roundw
        case rel => exact ⟨k + 1, by omega, by go_num, Lib.hid ⟨kv3, by rw [after_take HAF.out.2.1, HAF.out.1]; exact H3.out, runs_step HAF.out.2.2.1 HAF.out.2.1 (by rw [HAF.out.1]; exact HC.out), HBE.out⟩⟩
        case measure => simp [intOf]; omega
      · have hne : ((codeOf g1 d.nd : Int) == 0) = false := by simpa using hcode
        have HV := Lib.hid (runs_stop HAF.out.2.1 (by rw [HAF.out.1]; exact hcode))
        clear hcode
        generalize (codeOf g1 d.nd : Int) = cd at *
        go_wp2_with fail
        go_ret
        exact GivesV.mk' (by rw [HV.out]; rfl) HBE.out
    · obtain rfl : k = n := by omega
      obtain ⟨kv, hru, hrun, hbw⟩ := HI.out
      have HV : Hid (runs g0 (ts.map HN.nd) = true) := Lib.hid (by
        rw [List.take_of_length_le (by rw [List.length_map, HLN.out]; exact Nat.le_refl _)] at hrun
        exact hrun)
      have HBE := Lib.hid hbw
      clear hru hrun hbw HI
      go_wp2_with fail
      go_ret
      exact GivesV.mk' (by rw [HV.out]; rfl) HBE.out
/-! ### Great -/
def greatN (ts : List HN) : Bool := decide (40 < ts.length) || ts.any HN.great
set_option maxRecDepth 100000 in
set_option maxHeartbeats 8000000 in
theorem Great09_any {w : World} {a : Option Addr} {c : Nat} {ts : List HN} (hl : NodesIn w a ts) :
    Calls Tryd.prog 10 #[.slice a ts.length c] w (GivesV (.bool (greatN ts)) w) := by
  have HND : Hid (∀ (k : Nat) (d : HN), ts[k]? = some d → ∃ g off, a = some ⟨g, off, none⟩ ∧ ∀ W, Below w.heap.size w W → W.rangeAt g (off + k * 6) d.cells) := Lib.hid fun k d hd => by
    rcases hl.mem with e | ⟨g, off, e, h⟩
    · subst e; simp at hd
    · exact ⟨g, off, e, fun W hW => rangeAt_kept (h k d hd) hW (rangeAt_lt (h k d hd) (by simp [HN.cells]))⟩
  obtain ⟨n, hn⟩ : ∃ n, ts.length = n := ⟨_, rfl⟩
  have HLN := Lib.hid hn
  unfold greatN
  rw [hn]
  clear hl hn
  by_cases h40 : 40 < n
  · have h40' : decide ((40 : Int) < (n : Int)) = true := by simp; omega
    rw [decide_eq_true h40]
    clear h40
    go_enter Tryd.func10, Tryd.ntmps10
    go_wp2_with fail
    go_ret
    exact GivesV.mk' rfl (Below.refl _ _)
  · have h40' : decide ((40 : Int) < (n : Int)) = false := by simp; omega
    rw [decide_eq_false h40, Bool.false_or]
    have hn4 : n ≤ 40 := by omega
    clear h40
    go_enter Tryd.func10, Tryd.ntmps10
    go_wp2_with fail
    go_loopw [10] (fun (iv : Value) (wr : World) => ∃ k : Nat, k ≤ n ∧ iv = .int .i64 (k : Int) ∧ Hid ((ts.take k).any HN.great = false ∧ Below w.heap.size w wr)) (fun iv _ => n - (intOf iv).toNat)
    case atStart => exact ⟨0, Nat.zero_le _, rfl, Lib.hid ⟨rfl, Below.refl _ _⟩⟩
    case round =>
      obtain ⟨k, hkn, rfl, HI⟩ := hrel
      by_cases hlt : k < n
      · obtain ⟨d, hd⟩ : ∃ d, ts[k]? = some d := ⟨_, List.getElem?_eq_getElem (by rw [HLN.out]; exact hlt)⟩
        obtain ⟨g, off, rfl, hrange⟩ := HND.out k d hd
        have hrg := hrange wr HI.out.2
        have hal := (Below.refl wr.heap.size wr).alloc (Nat.le_refl _) (.cells d.cells.toArray 39)
        have HAL := Lib.hid hal
        have HD := Lib.hid hd
        have hki : (k : Int) < (n : Int) := by omega
        have hiw : wrap64 ((k : Int) + 1) = (k : Int) + 1 := IntWalk.wrap64_in _ (by omega)
        have hbox := rangeAt_new wr d.cells 39
        have x2 : (wr.alloc (.cells d.cells.toArray 39)).cell? ⟨wr.heap.size, 2, none⟩ = some (.slice d.ka d.kids.length d.kc) := hbox 2 _ rfl
        have hr3 : (wr.alloc (.cells d.cells.toArray 39)).rangeAt wr.heap.size 3 [.bool d.s, .slice d.a1 d.xs.length d.c1, .slice d.a2 d.ds.length d.c2] := fun j u hu => by
          have := hbox (3 + j) u (by rw [show d.cells = [.int .i64 d.op, .int .i64 d.v, .slice d.ka d.kids.length d.kc] ++ [.bool d.s, .slice d.a1 d.xs.length d.c1, .slice d.a2 d.ds.length d.c2] from rfl, List.getElem?_append_right (by simp)]; simpa using hu)
          simpa using this
        have HR3 := Lib.hid hr3
        have hgreat : d.great = (decide (12 < d.kids.length) || greatB [(d.s, (d.a1, d.xs.length, d.c1), (d.a2, d.ds.length, d.c2))]) := by
          unfold HN.great greatB
          simp
        have HGR := Lib.hid hgreat
        have hm := heap_alloc_new (wr.alloc (.cells d.cells.toArray 39)) (.cells #[.bool d.s, .slice d.a1 d.xs.length d.c1, .slice d.a2 d.ds.length d.c2] 37)
        have hsz : (wr.alloc (.cells d.cells.toArray 39)).heap.size = wr.heap.size + 1 := World.size_alloc _ _
        rw [hsz] at hm
        have HG := Lib.hid (Great_any (wr.heap.size + 1) 1 [(d.s, (d.a1, d.xs.length, d.c1), (d.a2, d.ds.length, d.c2))] _ (Rats.one hm) (by rw [World.size_alloc, hsz]; omega) (by simp))
        have HAL2 := Lib.hid (hal.trans (((Below.refl (wr.alloc (.cells d.cells.toArray 39)).heap.size (wr.alloc (.cells d.cells.toArray 39))).alloc (Nat.le_refl _) (.cells #[.bool d.s, .slice d.a1 d.xs.length d.c1, .slice d.a2 d.ds.length d.c2] 37)).mono hal.size))
        generalize greatB [(d.s, (d.a1, d.xs.length, d.c1), (d.a2, d.ds.length, d.c2))] = gb at *
        clear hrange hd hal hbox hr3 hgreat hm hsz
        by_cases h12 : 12 < d.kids.length
        · have h12' : decide ((12 : Int) < (d.kids.length : Int)) = true := by simp; omega
          have h12'' : (12 : Int) < (d.kids.length : Int) := by omega
          have HV : Hid (ts.any HN.great = true) := Lib.hid (List.any_eq_true.2 ⟨d, List.mem_of_getElem? HD.out, by rw [HGR.out, decide_eq_true h12]; rfl⟩)
          have HEND := Lib.hid (HI.out.2.trans (HAL.out.mono HI.out.2.size))
          clear h12
          go_wp2_with (first | (refine wpList_val (.agg d.cells.toArray) (run_load_op 39 (.tmp 12) (by with_reducible rfl) g (off + k * 6) (by rfl) d.cells _ hrg Tryd.underlying39 rfl (by rw [size_node]; rfl)) (by rfl) ?_) | (with_reducible refine wpList_alloc_agg rfl 39 rfl zNode zero_node ?_) | (refine wpList_store_new rfl 39 (.tmp 4) (.tmp 13) (by with_reducible rfl) wr zNode d.cells.toArray (by rfl) (by rfl) (by rfl) (by rw [size_node]; rfl) (by rfl) (hn_one d) ?_))
          go_ret
          exact GivesV.mk' (by rw [HV.out]; rfl) HEND.out
        · have h12' : decide ((12 : Int) < (d.kids.length : Int)) = false := by simp; omega
          have h12'' : ¬ (12 : Int) < (d.kids.length : Int) := by omega
          have HG2 := Lib.hid (show d.great = gb by rw [HGR.out, decide_eq_false h12, Bool.false_or])
          clear h12
          go_wp2_with (first | (refine wpList_val (.agg d.cells.toArray) (run_load_op 39 (.tmp 12) (by with_reducible rfl) g (off + k * 6) (by rfl) d.cells _ hrg Tryd.underlying39 rfl (by rw [size_node]; rfl)) (by rfl) ?_) | (with_reducible refine wpList_alloc_agg rfl 39 rfl zNode zero_node ?_) | (refine wpList_store_new rfl 39 (.tmp 4) (.tmp 13) (by with_reducible rfl) wr zNode d.cells.toArray (by rfl) (by rfl) (by rfl) (by rw [size_node]; rfl) (by rfl) (hn_one d) ?_) | (refine wpList_val (.agg #[.bool d.s, .slice d.a1 d.xs.length d.c1, .slice d.a2 d.ds.length d.c2]) (run_load_op 37 (.tmp 19) (by with_reducible rfl) wr.heap.size 3 (by rfl) [.bool d.s, .slice d.a1 d.xs.length d.c1, .slice d.a2 d.ds.length d.c2] _ HR3.out Tryd.underlying37 rfl (by rw [size_ratio]; rfl)) (by rfl) ?_))
          refine HG.out.mono ?_
          rintro e w5 ⟨rfl, hb5⟩
          have HEND := Lib.hid (HI.out.2.trans ((HAL2.out.trans (hb5.mono HAL2.out.size)).mono HI.out.2.size))
          clear hb5 HG
          cases gb with
          | true =>
            have HV : Hid (ts.any HN.great = true) := Lib.hid (List.any_eq_true.2 ⟨d, List.mem_of_getElem? HD.out, HG2.out⟩)
            go_wp2_with fail
            go_ret
            exact GivesV.mk' (by rw [HV.out]; rfl) HEND.out
          | false =>
            have HV : Hid ((ts.take (k + 1)).any HN.great = false) := Lib.hid (by
              have hk2 : k < ts.length := by rw [HLN.out]; exact hlt
              have hx : ts[k] = d := by have := HD.out; rw [List.getElem?_eq_getElem hk2] at this; exact Option.some.inj this
              rw [List.take_succ_eq_append_getElem hk2, hx, List.any_append, HI.out.1]
              simp [HG2.out])
            go_wp2_with fail
            go_roundw
            case rel => exact ⟨k + 1, by omega, by go_num, Lib.hid ⟨HV.out, HEND.out⟩⟩
            case measure => simp [intOf]; omega
      · obtain rfl : k = n := by omega
        have HV : Hid (ts.any HN.great = false) := Lib.hid (by
          have := HI.out.1
          rw [List.take_of_length_le (by rw [HLN.out]; exact Nat.le_refl _)] at this
          exact this)
        have HEND := Lib.hid HI.out.2
        go_wp2_with fail
        go_ret
        exact GivesV.mk' (by rw [HV.out]; rfl) HEND.out
end Go.Proofs.YtmiocohlklnglaaDoor

/-
  Layer 9: TermBeginnings: the walk.
-/
set_option linter.unusedVariables false
set_option linter.unusedSimpArgs false
namespace Go.Proofs.YtmiocohlklnglaaDoor
open Go.RowKit Tm Rep

theorem NodesIn.kept {W W' : World} {a : Option Addr} {ts : List HN} (h : NodesIn W a ts) (hb : Below W.heap.size W W') : NodesIn W' a ts := by
  refine ⟨?_, fun p hp => (h.each p hp).kept hb⟩
  rcases h.mem with e | ⟨g, off, e, h⟩
  · exact .inl e
  · exact .inr ⟨g, off, e, fun k p hp => rangeAt_kept (h k p hp) hb (rangeAt_lt (h k p hp) (by simp [HN.cells]))⟩
theorem NodesIn.take {W : World} {a : Option Addr} {ts : List HN} (h : NodesIn W a ts) (m : Nat) : NodesIn W a (ts.take m) := by
  refine ⟨?_, fun p hp => h.each p (List.mem_of_mem_take hp)⟩
  rcases h.mem with e | ⟨g, off, e, h⟩
  · exact .inl (by rw [e]; simp)
  · exact .inr ⟨g, off, e, fun k p hp => h k p (by rw [List.getElem?_take] at hp; split at hp; exact hp; cases hp)⟩
theorem great_no {ts : List HN} (h : greatN ts = false) : ts.length ≤ 40 ∧ ∀ d ∈ ts, d.great = false := by
  unfold greatN at h
  simp only [Bool.or_eq_false_iff, decide_eq_false_iff_not] at h
  refine ⟨by omega, fun d hd => ?_⟩
  have := List.any_eq_false.1 h.2 d hd
  simpa using this
theorem and65535 (x : Int) : ∃ q : Nat, q ≤ 65535 ∧ bits .and .i64 x 65535 = (q : Int) := by
  refine ⟨(BitVec.ofInt 64 x &&& BitVec.ofInt 64 65535).toNat, ?_, ?_⟩
  · rw [BitVec.toNat_and]
    exact Nat.and_le_right
  · show IntKind.i64.wrap ((BitVec.ofInt 64 x &&& BitVec.ofInt 64 65535).toNat : Int) = _
    have : (BitVec.ofInt 64 x &&& BitVec.ofInt 64 65535).toNat ≤ 65535 := by rw [BitVec.toNat_and]; exact Nat.and_le_right
    exact IntWalk.i64_in _ (by omega)
theorem cut_at (x : Int) (n : Nat) : ∃ m : Nat, m ≤ n ∧ (bits .and .i64 x 65535).tmod ((n : Int) + 1) = (m : Int) := by
  obtain ⟨q, _, hq⟩ := and65535 x
  refine ⟨q % (n + 1), by have := Nat.mod_lt q (show 0 < n + 1 by omega); omega, ?_⟩
  rw [hq, Int.tmod_eq_emod_of_nonneg (by omega)]
  simp
set_option maxRecDepth 100000 in
set_option maxHeartbeats 16000000 in
theorem TermBeginnings_any {w : World} (b r cut : Int) {a : Option Addr} {c : Nat} {ts : List HN} (hl : NodesIn w a ts) (hT : Tab w) (hc : ts.length ≤ c) (hc9 : c ≤ 9223372036854775807) :
    Calls Tryd.prog 4 #[.int .i64 b, .int .i64 r, .slice a ts.length c, .int .i64 cut] w (GivesV (.bool true) w) := by
  have HSP := Lib.hid (speaks_any w)
  have HGR : Hid (∀ W, Below w.heap.size w W → Calls Tryd.prog 10 #[.slice a ts.length c] W (GivesV (.bool (greatN ts)) W)) := Lib.hid fun W hW => Great09_any (hl.kept hW)
  have HLT := Lib.hid (And.intro hl hT)
  obtain ⟨n, hn⟩ : ∃ n, ts.length = n := ⟨_, rfl⟩
  have HLN := Lib.hid hn
  rw [hn] at HGR hc ⊢
  clear hn
  have early : ∀ q1 q2 q3 q4 q5 : Bool, greatN ts = q1 → decide (b < 0) = q2 → decide (r < 0) = q3 → decide ((1000 : Int) < b) = q4 → decide ((1000 : Int) < r) = q5 → (q1 || q2 || q3 || q4 || q5) = true →
      Calls Tryd.prog 4 #[.int .i64 b, .int .i64 r, .slice a n c, .int .i64 cut] w (GivesV (.bool true) w) := by
    intro q1 q2 q3 q4 q5 h1 h2 h3 h4 h5 hq
    rw [h1] at HGR
    clear HLT HLN h1 hl hT hc hc9
    cases q1 with
    | true =>
      go_enter Tryd.func4, Tryd.ntmps4
      go_wp2_with fail
      refine HSP.out.mono ?_
      rintro e w1 ⟨rfl, hb⟩
      have HB := Lib.hid hb
      clear hb
      go_wp2_with fail
      refine (HGR.out _ HB.out).mono ?_
      rintro e w2 ⟨rfl, hb2⟩
      have HB2 := Lib.hid (HB.out.trans (hb2.mono HB.out.size))
      clear hb2
      go_wp2_with fail
      go_ret
      exact GivesV.mk' rfl HB2.out
    | false =>
      cases q2 <;> cases q3 <;> cases q4 <;> cases q5 <;> first | exact absurd hq (by decide) | (
        clear hq
        go_enter Tryd.func4, Tryd.ntmps4
        go_wp2_with fail
        refine HSP.out.mono ?_
        rintro e w1 ⟨rfl, hb⟩
        have HB := Lib.hid hb
        clear hb
        go_wp2_with fail
        refine (HGR.out _ HB.out).mono ?_
        rintro e w2 ⟨rfl, hb2⟩
        have HB2 := Lib.hid (HB.out.trans (hb2.mono HB.out.size))
        clear hb2
        go_wp2_with fail
        go_ret
        exact GivesV.mk' rfl HB2.out)
  by_cases hok : greatN ts = false ∧ 0 ≤ b ∧ 0 ≤ r ∧ b ≤ 1000 ∧ r ≤ 1000
  case neg =>
    refine early _ _ _ _ _ rfl rfl rfl rfl rfl ?_
    cases hq : greatN ts with
    | true => rfl
    | false =>
      have : ¬ (0 ≤ b ∧ 0 ≤ r ∧ b ≤ 1000 ∧ r ≤ 1000) := fun h => hok ⟨hq, h⟩
      simp only [Bool.or_eq_true, decide_eq_true_eq]
      omega
  case pos =>
  obtain ⟨hgr, hb0, hr0, hb1, hr1⟩ := hok
  clear early
  obtain ⟨hn40, hsm⟩ := great_no hgr
  rw [HLN.out] at hn40
  rw [hgr] at HGR
  have q2 : decide (b < 0) = false := by simp; omega
  have q3 : decide (r < 0) = false := by simp; omega
  have q4 : decide ((1000 : Int) < b) = false := by simp; omega
  have q5 : decide ((1000 : Int) < r) = false := by simp; omega
  have HBR := Lib.hid (And.intro hb0 (And.intro hr0 (And.intro hb1 (And.intro hr1 (And.intro hn40 hsm)))))
  have HRT : Hid (∀ (W : World) (m : Nat) (x y : Int), Below w.heap.size w W → x ≤ 2000 → y ≤ 2000 → m ≤ n → Calls Tryd.prog 11 #[.slice a m c, .int .i64 x, .int .i64 y] W (GivesV (.bool (runs (startRu x y) ((ts.take m).map HN.nd))) W)) := Lib.hid fun W m x y hW hx hy hm => by
    have := TRight_any (c := c) ((hl.take m).kept hW) (hT.kept hW) (fun d hd => hsm d (List.mem_of_mem_take hd)) (by rw [List.length_take]; have := HLN.out; omega) x y (by omega) (by omega)
    rw [List.length_take, HLN.out, Nat.min_eq_left hm] at this
    exact this
  have hall : ts.take n = ts := List.take_of_length_le (by rw [HLN.out]; exact Nat.le_refl _)
  have HR0 := Lib.hid (fun W hW => HRT.out W n b r hW (by omega) (by omega) (Nat.le_refl _))
  rw [hall] at HR0
  obtain ⟨q6, hq6⟩ : ∃ q6, runs (startRu b r) (ts.map HN.nd) = q6 := ⟨_, rfl⟩
  rw [hq6] at HR0
  have HQ6 := Lib.hid hq6
  have HALL := Lib.hid hall
  clear hgr hb0 hr0 hsm hq6 hall hl hT
  cases q6 with
  | false =>
    go_enter Tryd.func4, Tryd.ntmps4
    go_wp2_with fail
    refine HSP.out.mono ?_
    rintro e w1 ⟨rfl, hb⟩
    have HB := Lib.hid hb
    clear hb
    go_wp2_with fail
    refine (HGR.out _ HB.out).mono ?_
    rintro e w2 ⟨rfl, hb2⟩
    have HB2 := Lib.hid (HB.out.trans (hb2.mono HB.out.size))
    clear hb2
    go_wp2_with fail
    refine (HR0.out _ HB2.out).mono ?_
    rintro e w3 ⟨rfl, hb3⟩
    have HB3 := Lib.hid (HB2.out.trans (hb3.mono HB2.out.size))
    clear hb3
    go_wp2_with fail
    go_ret
    exact GivesV.mk' rfl HB3.out
  | true =>
    go_enter Tryd.func4, Tryd.ntmps4
    go_wp2_with fail
    refine HSP.out.mono ?_
    rintro e w1 ⟨rfl, hb⟩
    have HB := Lib.hid hb
    clear hb
    go_wp2_with fail
    refine (HGR.out _ HB.out).mono ?_
    rintro e w2 ⟨rfl, hb2⟩
    have HB2 := Lib.hid (HB.out.trans (hb2.mono HB.out.size))
    clear hb2
    go_wp2_with fail
    refine (HR0.out _ HB2.out).mono ?_
    rintro e w3 ⟨rfl, hb3⟩
    have HB3 := Lib.hid (HB2.out.trans (hb3.mono HB2.out.size))
    clear hb3
    obtain ⟨m, hmn, hm⟩ := cut_at cut n
    have hmc : (m : Int) ≤ (c : Int) := by omega
    have hmc' : m ≤ c := by omega
    go_wp2_with fail
    have HPRE := HRT.out w3 m b r HB3.out (by omega) (by omega) hmn
    have hpre : runs (startRu b r) ((ts.take m).map HN.nd) = true := by rw [List.map_take]; exact runs_take m HQ6.out
    rw [hpre] at HPRE
    have HPR := Lib.hid HPRE
    clear HPRE hpre
    refine HPR.out.mono ?_
    rintro e w4 ⟨rfl, hb4⟩
    have HB4 := Lib.hid (HB3.out.trans (hb4.mono HB3.out.size))
    clear hb4 HPR hm hmc hmc' hmn
    have hw1 : wrap64 (b + 1) = b + 1 := IntWalk.wrap64_in _ (by have := HBR.out.1; omega)
    have hw2 : wrap64 (r + 2) = r + 2 := IntWalk.wrap64_in _ (by have := HBR.out.2.1; omega)
    have HMO := HRT.out w4 n (b + 1) (r + 2) HB4.out (by omega) (by omega) (Nat.le_refl _)
    have hmore : runs (startRu (b + 1) (r + 2)) ((ts.take n).map HN.nd) = true := by
      rw [HALL.out]
      refine runs_more (g := startRu b r) rfl ?_ ?_ HQ6.out
      · have := HBR.out.1
        unfold startRu
        dsimp only
        rw [if_neg (by omega), if_neg (by omega)]
        omega
      · have := HBR.out.2.1
        unfold startRu
        dsimp only
        rw [if_neg (by omega), if_neg (by omega)]
        omega
    rw [hmore] at HMO
    have HMR := Lib.hid HMO
    clear HMO hmore
    go_wp2_with fail
    refine HMR.out.mono ?_
    rintro e w5 ⟨rfl, hb5⟩
    have HB5 := Lib.hid (HB4.out.trans (hb5.mono HB4.out.size))
    clear hb5 HMR hw1 hw2
    have HNEW := Lib.hid (New_any w5 b r (by omega) (by omega))
    go_wp2_with fail
    refine HNEW.out.mono ?_
    rintro e w6 ⟨T, R, mo, mg, rfl, h6, hb6⟩
    have HT6 := Lib.hid (And.intro h6 (HB5.out.trans (hb6.mono HB5.out.size)))
    clear h6 hb6 HNEW
    obtain ⟨B, hB⟩ : ∃ B, w5.heap.size = B := ⟨_, rfl⟩
    obtain ⟨g0, hg0⟩ : ∃ g0, startRu b r = g0 := ⟨_, rfl⟩
    have hk0 : g0.ks = [] := by rw [← hg0]; rfl
    have hB5 := HB5.out.size
    rw [hB, hg0] at HT6
    rw [hB] at hB5
    have hQ := HQ6.out
    rw [hg0] at hQ
    have HG0 := Lib.hid (And.intro hk0 (And.intro hB5 hQ))
    have HND : Hid (∀ (k : Nat) (d : HN), ts[k]? = some d → (∃ g off, a = some ⟨g, off, none⟩ ∧ ∀ W, Below w.heap.size w W → W.rangeAt g (off + k * 6) d.cells) ∧ (∀ W, Below w.heap.size w W → NodeAt W d.nd d.ka d.kc d.s d.a1 d.xs.length d.c1 d.a2 d.ds.length d.c2)) := Lib.hid fun k d hd => by
      have hm := List.mem_of_getElem? hd
      refine ⟨?_, fun W hW => ((HLT.out.1.each d hm).kept hW).node (HBR.out.2.2.2.2.2 d hm) (HLT.out.2.kept hW)⟩
      rcases HLT.out.1.mem with e | ⟨g, off, e, h⟩
      · subst e; simp at hd
      · exact ⟨g, off, e, fun W hW => rangeAt_kept (h k d hd) hW (rangeAt_lt (h k d hd) (by simp [HN.cells]))⟩
    clear hB hg0 hk0 hB5 hQ HGR HSP HRT HR0 HALL HB HB2 HB3 HB4 HB5 q2 q3 q4 q5 HQ6
    go_wp2_with fail
    go_loopw [69] (fun (iv : Value) (wr : World) => ∃ k : Nat, k ≤ n ∧ iv = .int .i64 (k : Int) ∧ Hid (∃ kv nv, TmAt wr B T R mo mg kv nv (after g0 ((ts.map HN.nd).take k)) ∧ Below w.heap.size w wr ∧ B ≤ wr.heap.size)) (fun iv _ => n - (intOf iv).toNat)
    case atStart => exact ⟨0, Nat.zero_le _, rfl, Lib.hid ⟨_, _, HT6.out.1, HT6.out.2, by have := HT6.out.1.ru.sizes.1; have := HT6.out.1.ru.low.1; omega⟩⟩
    case round =>
      obtain ⟨k, hkn, rfl, HI⟩ := hrel
      clear HT6
      by_cases hlt : k < n
      · obtain ⟨kv, nv, htm, hbw, hBw⟩ := HI.out
        obtain ⟨d, hd⟩ : ∃ d, ts[k]? = some d := ⟨_, List.getElem?_eq_getElem (by rw [HLN.out]; exact hlt)⟩
        obtain ⟨⟨g, off, rfl, hrange⟩, hnode⟩ := HND.out k d hd
        have hrg := hrange wr hbw
        have hdn : (ts.map HN.nd)[k]? = some d.nd := by rw [List.getElem?_map, hd]; rfl
        have hcode := runs_at HG0.out.2.2 hdn
        have hlen : (after g0 ((ts.map HN.nd).take k)).ks.length = k := by
          rw [after_len (runs_take k HG0.out.2.2), HG0.out.1, List.length_take, List.length_map, HLN.out]
          simp
          omega
        have hafter : after g0 ((ts.map HN.nd).take (k + 1)) = next (after g0 ((ts.map HN.nd).take k)) d.nd := after_take hdn
        obtain ⟨g1, hg1⟩ : ∃ g1, after g0 ((ts.map HN.nd).take k) = g1 := ⟨_, rfl⟩
        rw [hg1] at htm hcode hlen hafter
        have hal := (Below.refl wr.heap.size wr).alloc (Nat.le_refl _) (.cells d.cells.toArray 39)
        have htm2 := htm.kept hal
        have hbw2 := hbw.trans (hal.mono hbw.size)
        have HAD := Lib.hid ((Add_any htm2 (n := d.nd) (ka := d.ka) (kc := d.kc) (s := d.s) (a1 := d.a1) (l1 := d.xs.length) (c1 := d.c1) (a2 := d.a2) (l2 := d.ds.length) (c2 := d.c2) (fun W hW => hnode W (hbw2.trans (hW.below (by
          obtain ⟨xs, hx⟩ := htm2.row
          have := HG0.out.2.1
          rintro j (e | e | e | e)
          · have := htm2.low; omega
          · have := htm2.ru.low.1; omega
          · have := (own_tag htm2.ru.row e).1; omega
          · have := (own_tag hx e).1; omega) hbw2.size))) (Nat.le_trans hBw hal.size)).mono (fun e w' h => h.says hcode rfl (x := (k : Int)) (y := 0) (by rw [if_pos rfl, hlen]) rfl))
        have HA := Lib.hid (And.intro htm (And.intro hbw (And.intro hBw (And.intro hal (And.intro htm2 (And.intro hcode (And.intro hlen (And.intro hafter (And.intro hbw2 hd)))))))))
        have HBOX := rangeAt_new wr d.cells 39
        have hki : (k : Int) < (n : Int) := by omega
        have hiw : wrap64 ((k : Int) + 1) = (k : Int) + 1 := IntWalk.wrap64_in _ (by omega)
        clear htm hbw hrange hnode hd hdn hg1 HI hal htm2 hbw2 hcode hlen hafter hBw
        go_wp2_with (first | (refine wpList_val (.agg d.cells.toArray) (run_load_op 39 (.tmp 72) (by with_reducible rfl) g (off + k * 6) (by rfl) d.cells _ hrg Tryd.underlying39 rfl (by rw [size_node]; rfl)) (by rfl) ?_) | (with_reducible refine wpList_alloc_agg rfl 39 rfl zNode zero_node ?_) | (refine wpList_store_new rfl 39 (.tmp 11) (.tmp 73) (by with_reducible rfl) wr zNode d.cells.toArray (by rfl) (by rfl) (by rfl) (by rw [size_node]; rfl) (by rfl) (hn_one d) ?_) | (refine wpList_val (.agg d.cells.toArray) (run_load_op 39 (.tmp 11) (by with_reducible rfl) wr.heap.size 0 (by rfl) d.cells _ HBOX Tryd.underlying39 rfl (by rw [size_node]; rfl)) (by rfl) ?_))
        refine HAD.out.mono ?_
        rintro e w7 ⟨rfl, kv7, nv7, h7, hc7⟩
        have hS : ∀ j, (j = T ∨ j = R ∨ kv.ownBlock = some j ∨ nv.ownBlock = some j) → B ≤ j ∧ j < wr.heap.size := by
          obtain ⟨xs, hx⟩ := HA.out.1.row
          rintro j (e | e | e | e)
          · subst e; exact ⟨HA.out.1.low, (Array.getElem?_eq_some_iff.1 HA.out.1.head).1⟩
          · subst e; exact ⟨HA.out.1.ru.low.1, HA.out.1.ru.sizes.1⟩
          · exact ⟨(own_tag HA.out.1.ru.row e).1, own_lt HA.out.1.ru.row e⟩
          · exact ⟨(own_tag hx e).1, own_lt hx e⟩
        have hb7 : Below w.heap.size w w7 := HA.out.2.2.2.2.2.2.2.2.1.trans (hc7.below (fun j hj => by have := (hS j hj).1; have := HG0.out.2.1; omega) HA.out.2.2.2.2.2.2.2.2.1.size)
        have hbox7 : w7.rangeAt wr.heap.size 0 d.cells := fun j u hu => (World.cell?_of_block (a := ⟨wr.heap.size, 0 + j, none⟩) (hc7.block wr.heap.size (by rw [World.size_alloc]; omega) (fun e => by have := (hS _ e).2; omega))).trans (HBOX j u hu)
        have hsz7 : B ≤ w7.heap.size := Nat.le_trans HA.out.2.2.1 (Nat.le_trans HA.out.2.2.2.1.size hc7.size)
        have hkd := kindOf_last HA.out.2.2.2.2.2.1
        rw [HA.out.2.2.2.2.2.2.1] at hkd
        have H7 := Lib.hid (And.intro h7 (And.intro hb7 (And.intro hbox7 hsz7)))
        have hgr := Ground_any h7 (k : Int)
        have hso := Sort_any h7 (k : Int)
        rw [hkd] at hgr hso
        dsimp only at hgr hso
        have hold : ∀ x, has g1.ks x = true → (kindOf (next g1 d.nd).ks x).2 = (kindOf g1.ks x).2 := fun x hx => by rw [kindOf_old hx]
        have hsay := ground_says HA.out.2.2.2.2.2.1
        obtain ⟨gd, hgd⟩ : ∃ gd, ground g1.ks d.nd = gd := ⟨_, rfl⟩
        rw [hgd] at hgr hsay
        have HGRD := Lib.hid hgr
        have HSAY := Lib.hid (And.intro hsay hold)
        have HSORT := Lib.hid (fun W (hW : Below w7.heap.size w7 W) => Sort_any (h7.kept hW) (k : Int))
        have HKD := Lib.hid hkd
        clear h7 hc7 hS hb7 hbox7 hsz7 hkd hgr hso hold hsay hgd HAD HBOX hrg
        go_wp2_with fail
        refine HGRD.out.mono ?_
        rintro e w8 ⟨rfl, hb8⟩
        have H8 := Lib.hid (And.intro (H7.out.1.kept hb8) (And.intro (H7.out.2.1.trans (hb8.mono H7.out.2.1.size)) (And.intro (rangeAt_kept H7.out.2.2.1 hb8 (rangeAt_lt H7.out.2.2.1 (by simp [HN.cells]))) (Nat.le_trans H7.out.2.2.2 hb8.size))))
        have hs8 := HSORT.out w8 hb8
        rw [HKD.out] at hs8
        dsimp only at hs8
        have HS8 := Lib.hid hs8
        clear hb8 hs8
        cases gd with
        | false =>
          go_wp2_with fail
          go_roundw
          case rel => exact ⟨k + 1, by omega, by go_num, Lib.hid ⟨_, _, by rw [HA.out.2.2.2.2.2.2.2.1]; exact H8.out.1, H8.out.2.1, H8.out.2.2.2⟩⟩
          case measure => simp [intOf]; omega
        | true =>
          have hs2 := (HSAY.out.1 rfl).1
          have hs8 := HS8.out
          rw [hs2] at hs8
          have HS9 := Lib.hid hs8
          clear HS8 hs8 hs2
          go_wp2_with fail
          refine HS9.out.mono ?_
          rintro e w9 ⟨rfl, hb9⟩
          have H9 := Lib.hid (And.intro (H8.out.1.kept hb9) (And.intro (H8.out.2.1.trans (hb9.mono H8.out.2.1.size)) (And.intro (rangeAt_kept H8.out.2.2.1 hb9 (rangeAt_lt H8.out.2.2.1 (by simp [HN.cells]))) (Nat.le_trans H8.out.2.2.2 hb9.size))))
          clear hb9 HS9
          have x2 : w9.cell? ⟨wr.heap.size, 2, none⟩ = some (.slice d.ka d.kids.length d.kc) := H9.out.2.2.1 2 _ rfl
          have hkin := (HLT.out.1.each d (List.mem_of_getElem? HA.out.2.2.2.2.2.2.2.2.2)).kids
          have hfew : d.kids.length ≤ 12 := by
            have := HBR.out.2.2.2.2.2 d (List.mem_of_getElem? HA.out.2.2.2.2.2.2.2.2.2)
            unfold HN.great at this
            simp only [Bool.or_eq_false_iff, decide_eq_false_iff_not] at this
            omega
          have HKIN := Lib.hid hkin
          obtain ⟨L, hL⟩ : ∃ L, d.kids.length = L := ⟨_, rfl⟩
          have HLL := Lib.hid hL
          rw [hL] at x2 hfew
          clear hkin hL
          obtain ⟨ka, hka⟩ : ∃ ka, d.ka = ka := ⟨_, rfl⟩
          have HKA := Lib.hid hka
          rw [hka] at x2
          clear hka
          go_wp2_with fail
          go_loopw [98] (fun (jv : Value) (wq : World) => ∃ j : Nat, j ≤ L ∧ jv = .int .i64 (j : Int) ∧ Hid (Below w9.heap.size w9 wq)) (fun jv _ => L - (intOf jv).toNat)
          case atStart => exact ⟨0, Nat.zero_le _, rfl, Lib.hid (Below.refl _ _)⟩
          case round =>
            obtain ⟨j, hjL, rfl, HJ⟩ := hrel
            by_cases hjl : j < L
            · obtain ⟨x, hx⟩ : ∃ x, d.kids[j]? = some x := ⟨_, List.getElem?_eq_getElem (by rw [HLL.out]; exact hjl)⟩
              have hxm := List.mem_of_getElem? hx
              have hbq : Below w.heap.size w wr := H9.out.2.1.trans (HJ.out.mono H9.out.2.1.size)
              have hki := HKIN.out.at_
              rw [HKA.out] at hki
              obtain ⟨kb, ko, rfl, hkr⟩ : ∃ kb ko, ka = some ⟨kb, ko, none⟩ ∧ wr.cell? ⟨kb, ko + j, none⟩ = some (.int .i64 x) := by
                rcases hki with e | ⟨kb, ko, e, h⟩
                · rw [e] at hx; simp at hx
                · exact ⟨kb, ko, e, (hbq.cell (p := ⟨kb, ko + j, none⟩) (World.block_lt_of_cell? _ _ (h j _ (i64s_get hx)))).trans (h j _ (i64s_get hx))⟩
              have hgk := Ground_any (H9.out.1.kept HJ.out) x
              obtain ⟨q1, q2⟩ := (HSAY.out.1 (by first | rfl | trivial)).2 x hxm
              rw [HSAY.out.2 x q1, q2] at hgk
              have HGK := Lib.hid hgk
              have hji : (j : Int) < (L : Int) := by omega
              have hjw : wrap64 ((j : Int) + 1) = (j : Int) + 1 := IntWalk.wrap64_in _ (by omega)
              clear hx hxm hbq hki hgk q1 q2
              go_wp2_with fail
              refine HGK.out.mono ?_
              rintro e w10 ⟨rfl, hb10⟩
              have HJ2 := Lib.hid (HJ.out.trans (hb10.mono HJ.out.size))
              clear hb10 HGK
              go_wp2_with fail
              go_roundw
              case rel => exact ⟨j + 1, by omega, by go_num, HJ2⟩
              case measure => simp [intOf]; omega
            · obtain rfl : j = L := by omega
              go_wp2_with fail
              go_roundw
              case rel => exact ⟨k + 1, by omega, by go_num, Lib.hid ⟨_, _, by rw [HA.out.2.2.2.2.2.2.2.1]; exact H9.out.1.kept HJ.out, H9.out.2.1.trans (HJ.out.mono H9.out.2.1.size), Nat.le_trans H9.out.2.2.2 HJ.out.size⟩⟩
              case measure => simp [intOf]; omega
      · obtain rfl : k = n := by omega
        obtain ⟨kv, nv, htm, hbw, _⟩ := HI.out
        have HBE := Lib.hid hbw
        clear htm hbw HI
        go_wp2_with fail
        go_ret
        exact GivesV.mk' rfl HBE.out
end Go.Proofs.YtmiocohlklnglaaDoor
