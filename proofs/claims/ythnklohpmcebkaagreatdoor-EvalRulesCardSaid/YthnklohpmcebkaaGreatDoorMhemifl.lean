/- By program out of: TmNodes, EvAll, EvTrue. -/
import Derived.Test.YthnklohpmcebkaaGreatDoorMbknfnd
import Derived.Test.YthnklohpmcebkaaGreatDoorMepmjoa
import Derived.Test.YthnklohpmcebkaaGreatDoorMkeimog
import Derived.Test.YthnklohpmcebkaaGreatDoorMpblbmi
set_option linter.unusedVariables false
set_option linter.unusedSimpArgs false
namespace Go.Proofs.YthnklohpmcebkaaGreatDoor
open Go.RowKit Tm Rep
structure HN where
  op : Int
  v : Int
  ka : Option Addr
  kc : Nat
  kids : List Int
  s : Bool
  a1 : Option Addr
  c1 : Nat
  xs : List Nat
  a2 : Option Addr
  c2 : Nat
  ds : List Nat
def HN.cells (d : HN) : List Value := [.int .i64 d.op, .int .i64 d.v, .slice d.ka d.kids.length d.kc, .bool d.s, .slice d.a1 d.xs.length d.c1, .slice d.a2 d.ds.length d.c2]
def HN.nd (d : HN) : Nd := ⟨d.op, d.v, d.kids, !d.s && decide (d.xs.length = 0) && decide (d.ds.length = 0), rightB d.s d.xs d.ds⟩
structure HandN (w : World) (d : HN) : Prop where
  kids : KIn w d.ka d.kids d.kc
  num : HandR w d.a1 d.c1 d.xs d.a2 d.c2 d.ds
def HN.great (d : HN) : Bool := decide (12 < d.kids.length) || (decide (6 < d.xs.length) || decide (6 < d.ds.length))
structure NodesIn (W : World) (a : Option Addr) (ts : List HN) : Prop where
  mem : ts = [] ∨ ∃ g off, a = some ⟨g, off, none⟩ ∧ ∀ (k : Nat) (p : HN), ts[k]? = some p → W.rangeAt g (off + k * 6) p.cells
  each : ∀ p ∈ ts, HandN W p
theorem KIn.kept {w w' : World} {a : Option Addr} {xs : List Int} {c : Nat} (h : KIn w a xs c) (hb : Below w.heap.size w w') : KIn w' a xs c := by
  refine ⟨?_, h.cap, h.capped, h.mid⟩
  rcases h.at_ with e | ⟨g, off, e, h⟩
  · exact .inl e
  · exact .inr ⟨g, off, e, fun j u hu => (hb.cell (p := ⟨g, off + j, none⟩) (World.block_lt_of_cell? _ _ (h j u hu))).trans (h j u hu)⟩
theorem cel_of_handed {w : World} {a : Option Addr} {c : Nat} {xs : List Nat} (h : Handed w a c xs) (hf : xs.length ≤ 1000000) : Cel w a xs.length c := by
  refine ⟨?_, hf⟩
  rcases h.reads with e | ⟨g, off, e, hr⟩
  · exact .inl (by simpa using e)
  · exact .inr ⟨g, off, xs.map u32v, e, by simp, fun j u hu => hr j u hu, one_u32⟩
theorem HandN.kept {w w' : World} {d : HN} (h : HandN w d) (hb : Below w.heap.size w w') : HandN w' d := ⟨h.kids.kept hb, h.num.kept hb⟩
theorem HandN.node {w : World} {d : HN} (h : HandN w d) (hg : d.great = false) (hT : Tab w) : NodeAt w d.nd d.ka d.kc d.s d.a1 d.xs.length d.c1 d.a2 d.ds.length d.c2 := by
  unfold HN.great at hg
  simp only [Bool.or_eq_false_iff, decide_eq_false_iff_not] at hg
  obtain ⟨g1, g2, g3⟩ := hg
  refine ⟨⟨h.kids.at_, h.kids.cap, h.kids.capped, h.kids.mid, ?_⟩, rfl, cel_of_handed h.num.num (by omega), cel_of_handed h.num.den (by omega), fun _ W hW => RightP_any (h.num.kept hW) (hT.kept hW) (by omega) (by omega)⟩
  show d.kids.length ≤ 1000000
  omega
theorem runs_stop {g : Ru} {l : List Nd} {k : Nat} {n : Nd} (hn : l[k]? = some n) (hc : codeOf (after g (l.take k)) n ≠ 0) : runs g l = false := by
  cases h : runs g l with
  | false => rfl
  | true => exact absurd (runs_at h hn) hc
theorem runs_step {g : Ru} {l : List Nd} {k : Nat} {n : Nd} (hr : runs g (l.take k) = true) (hn : l[k]? = some n) (hc : codeOf (after g (l.take k)) n = 0) : runs g (l.take (k + 1)) = true := by
  have hk : k < l.length := (List.getElem?_eq_some_iff.1 hn).1
  have : l[k] = n := by rw [List.getElem?_eq_getElem hk] at hn; exact Option.some.inj hn
  rw [List.take_succ_eq_append_getElem hk, this, runs_app, hr]
  unfold runs
  rw [if_pos hc]
  rfl
def zNode : Array Value := #[.int .i64 0, .int .i64 0, .slice none 0 0, .bool false, .slice none 0 0, .slice none 0 0]
theorem zero_node (w : World) : (zeroValue 33).run Tryz.prog w = .ok (.agg zNode) w := by unfold zNode; go_simp
theorem hn_one (d : HN) : d.cells.toArray.all (·.oneCell') = true := by
  refine all_oneCell_toArray ?_
  intro u hu
  simp only [HN.cells, List.mem_cons, List.not_mem_nil, or_false] at hu
  rcases hu with rfl | rfl | rfl | rfl | rfl | rfl <;> rfl
set_option maxRecDepth 100000 in
set_option maxHeartbeats 8000000 in
theorem TRight_any {w : World} {a : Option Addr} {c : Nat} {ts : List HN} (hl : NodesIn w a ts) (hT : Tab w) (hs : ∀ d ∈ ts, d.great = false) (hlen : ts.length ≤ 1000) (b r : Int) (hb : b ≤ 9223372036854775807) (hr : r ≤ 9223372036854775807) :
    Calls Tryz.prog 22 #[.slice a ts.length c, .int .i64 b, .int .i64 r] w (GivesV (.bool (runs (startRu b r) (ts.map HN.nd))) w) := by
  have HN0 := Lib.hid (newRules_any w b r hb hr)
  have HND : Hid (∀ (k : Nat) (d : HN), ts[k]? = some d → (∃ g off, a = some ⟨g, off, none⟩ ∧ ∀ W, Below w.heap.size w W → W.rangeAt g (off + k * 6) d.cells) ∧ (∀ W, Below w.heap.size w W → NodeAt W d.nd d.ka d.kc d.s d.a1 d.xs.length d.c1 d.a2 d.ds.length d.c2)) := Lib.hid fun k d hd => by
    have hm := List.mem_of_getElem? hd
    refine ⟨?_, fun W hW => ((hl.each d hm).kept hW).node (hs d hm) (hT.kept hW)⟩
    rcases hl.mem with e | ⟨g, off, e, h⟩
    · subst e; simp at hd
    · exact ⟨g, off, e, fun W hW => rangeAt_kept (h k d hd) hW (rangeAt_lt (h k d hd) (by simp [HN.cells]))⟩
  obtain ⟨n, hn⟩ : ∃ n, ts.length = n := ⟨_, rfl⟩
  have HLN := Lib.hid hn
  rw [hn] at hlen ⊢
  obtain ⟨g0, hg0⟩ : ∃ g0, startRu b r = g0 := ⟨_, rfl⟩
  have hks0 : g0.ks = [] := by rw [← hg0]; rfl
  have HG0 := Lib.hid hg0
  rw [hg0]
  clear hl hT hs hb hr hn hg0 hks0
  go_enter Tryz.func22, Tryz.ntmps22
  go_wp2_with fail
  refine HN0.out.mono ?_
  rintro e w1 ⟨R, mo, mg, rfl, hru⟩
  rw [HG0.out] at hru
  have HRU := Lib.hid hru
  clear hru
  go_wp2_with fail
  go_loopw [15] (fun (iv : Value) (wr : World) => ∃ k : Nat, k ≤ n ∧ iv = .int .i64 (k : Int) ∧ Hid (∃ kv, RuAt wr w.heap.size R mo mg kv (after g0 ((ts.map HN.nd).take k)) ∧ runs g0 ((ts.map HN.nd).take k) = true ∧ Below w.heap.size w wr)) (fun iv _ => n - (intOf iv).toNat)
  case atStart => exact ⟨0, Nat.zero_le _, rfl, Lib.hid ⟨_, HRU.out.ru, rfl, HRU.out.below⟩⟩
  case round =>
    obtain ⟨k, hkn, rfl, HI⟩ := hrel
    by_cases hlt : k < n
    · obtain ⟨kv, hru, hrun, hbw⟩ := HI.out
      obtain ⟨d, hd⟩ : ∃ d, ts[k]? = some d := ⟨_, List.getElem?_eq_getElem (by rw [HLN.out]; exact hlt)⟩
      obtain ⟨⟨g, off, rfl, hrange⟩, hnode⟩ := HND.out k d hd
      have hrg := hrange wr hbw
      have hdn : (ts.map HN.nd)[k]? = some d.nd := by rw [List.getElem?_map, hd]; rfl
      obtain ⟨g1, hg1⟩ : ∃ g1, after g0 ((ts.map HN.nd).take k) = g1 := ⟨_, rfl⟩
      have HAF := Lib.hid (And.intro hg1 (And.intro hdn (And.intro hrun hbw)))
      rw [hg1] at hru
      have hal := (Below.refl wr.heap.size wr).alloc (Nat.le_refl _) (.cells d.cells.toArray 33)
      have HTK := Lib.hid (take_any (hru.kept hal) (hnode _ (hbw.trans (hal.mono hbw.size))) (Nat.le_trans hbw.size hal.size))
      have HRW := Lib.hid (And.intro hru hal)
      have HBOX := rangeAt_new wr d.cells 33
      have hki : (k : Int) < (n : Int) := by omega
      have hiw : wrap64 ((k : Int) + 1) = (k : Int) + 1 := IntWalk.wrap64_in _ (by omega)
      have hsz : d.cells.length = 6 := rfl
      clear hru hrun hbw hrange hnode hd hdn hg1 HI hal
      have e6 : ∀ q : Nat, d.cells.toArray = #[.int .i64 d.op, .int .i64 d.v, .slice d.ka d.kids.length d.kc, .bool d.s, .slice d.a1 d.xs.length d.c1, .slice d.a2 d.ds.length d.c2] := fun _ => rfl
      have HE6 := Lib.hid e6
      clear e6
      go_wp2_with (first | (refine wpList_val (.agg d.cells.toArray) (run_load_op 33 (.tmp 17) (by with_reducible rfl) g (off + k * 6) (by rfl) d.cells _ hrg Tryz.underlying33 rfl (by rw [size_node]; rfl)) (by rfl) ?_) | (with_reducible refine wpList_alloc_agg rfl 33 rfl zNode zero_node ?_) | (refine wpList_store_new rfl 33 (.tmp 9) (.tmp 18) (by with_reducible rfl) wr zNode d.cells.toArray (by rfl) (by rfl) (by rfl) (by rw [size_node]; rfl) (by rfl) (hn_one d) ?_) | (refine wpList_val (.agg d.cells.toArray) (run_load_op 33 (.tmp 9) (by with_reducible rfl) wr.heap.size 0 (by rfl) d.cells _ HBOX Tryz.underlying33 rfl (by rw [size_node]; rfl)) (by rfl) ?_))
      refine HTK.out.mono ?_
      rintro e w3 ⟨rfl, kv3, h3, hc3, _⟩
      have hbel : Below w.heap.size w w3 := (HAF.out.2.2.2.trans (HRW.out.2.mono HAF.out.2.2.2.size)).trans (hc3.below (by
        rintro j (e | e)
        · rw [e]; exact HRW.out.1.low.1
        · exact (own_tag HRW.out.1.row e).1) (Nat.le_trans HAF.out.2.2.2.size HRW.out.2.size))
      have HBE := Lib.hid hbel
      have H3 := Lib.hid h3
      clear hbel h3 hc3
      by_cases hcode : codeOf g1 d.nd = 0
      · have HC := Lib.hid hcode
        rw [hcode]
        clear hcode
        go_wp2_with fail
        go_roundw
        case rel => exact ⟨k + 1, by omega, by go_num, Lib.hid ⟨kv3, by rw [after_take HAF.out.2.1, HAF.out.1]; exact H3.out, runs_step HAF.out.2.2.1 HAF.out.2.1 (by rw [HAF.out.1]; exact HC.out), HBE.out⟩⟩
        case measure => simp [intOf]; omega
      · have hne : ((codeOf g1 d.nd : Int) == 0) = false := by simpa using hcode
        have HV := Lib.hid (runs_stop HAF.out.2.1 (by rw [HAF.out.1]; exact hcode))
        clear hcode
        generalize (codeOf g1 d.nd : Int) = cd at *
        go_wp2_with fail
        go_ret
        exact GivesV.mk' (by rw [HV.out]; rfl) HBE.out
    · obtain rfl : k = n := by omega
      obtain ⟨kv, hru, hrun, hbw⟩ := HI.out
      have HV : Hid (runs g0 (ts.map HN.nd) = true) := Lib.hid (by
        rw [List.take_of_length_le (by rw [List.length_map, HLN.out]; exact Nat.le_refl _)] at hrun
        exact hrun)
      have HBE := Lib.hid hbw
      clear hru hrun hbw HI
      go_wp2_with fail
      go_ret
      exact GivesV.mk' (by rw [HV.out]; rfl) HBE.out
end Go.Proofs.YthnklohpmcebkaaGreatDoor

set_option linter.unusedVariables false
set_option linter.unusedSimpArgs false
namespace Go.Proofs.YthnklohpmcebkaaGreatDoor
open Go.RowKit Tm Rep Ev
theorem good_made (n : Nat) : ∀ u ∈ (madeCells zVal n).toList, GoodE u := by
  intro u hu
  simp only [madeCells, Array.toList_map, List.mem_map] at hu
  obtain ⟨i, _, rfl⟩ := hu
  have hlt : i % zVal.size < zVal.size := Nat.mod_lt _ (by decide)
  rw [getElem!_pos zVal _ hlt]
  have hm := Array.mem_toList_iff.2 (Array.getElem_mem hlt)
  revert hm
  generalize zVal[i % zVal.size] = u
  intro hm
  simp only [zVal, List.mem_cons, List.not_mem_nil, or_false] at hm
  rcases hm with rfl | rfl | rfl | rfl
  · exact .inl ⟨_, rfl⟩
  · exact .inl ⟨_, rfl⟩
  · exact .inr ⟨_, _, _, rfl⟩
  · exact .inr ⟨_, _, _, rfl⟩
theorem run_makeV (n : Nat) (hn : n ≤ 1000000) (w : World) : (Instr.makeSlice 48 (.int .i64 0) (.int .i64 (n : Int))).run Tryz.prog w = .ok (.slice (some ⟨w.heap.size, 0, none⟩) 0 n) (w.alloc (.cells (madeCells zVal (n * 4)) 52)) := by
  obtain ⟨i, h1, h2, h3, h4⟩ := info_parts (show (Tryz.prog.info? 52).map (fun i => (i.zero, i.size, i.bytes)) = some (some (.agg zVal), 4, 64) from by kernel_rfl)
  have := run_make (P := Tryz.prog) w 48 52 i (.agg zVal) Tryz.underlying48 h1 h2 .i64 .i64 0 (n : Int) (Int.le_refl _) (by omega) (by rw [h4]; omega) (by omega)
  rw [this, h3]
  rfl
theorem own_made (w : World) (n : Nat) : OwnE (w.alloc (.cells (madeCells zVal (n * 4)) 52)) w.heap.size n 0 [] :=
  ⟨⟨_, heap_alloc_new w _, size_madeCells _ _, by simp, good_made _⟩, rfl, Nat.zero_le _⟩
def GivesRk (W : World) (b m : Nat) (bools : List Bool) (ba : Option Addr) (bc : Nat) (reals : List Rat) (rq : List RV) (ra : Option Addr) (rc : Nat) (n : Nat) (e : Ending) (W' : World) : Prop :=
  ∃ R G L mo, e = .returned (.pointer (some ⟨R, 0, none⟩)) ∧ W.heap.size ≤ R ∧ W.heap.size ≤ G ∧ Hid (RkAt W' ⟨R, G, b, m, L, mo, n, bools, ba, bc, reals, rq, ra, rc⟩ [] []) ∧ Hid (Below W.heap.size W W')
section
variable {W : World} {b m : Nat} {bools : List Bool} {ba : Option Addr} {bc : Nat} {reals : List Rat} {rq : List RV} {ra : Option Addr} {rc : Nat}
theorem mk_reck {W1 : World} {n mo L G : Nat} (hb1 : Below W.heap.size W W1) (hB : Bench W b m false) (hT : Tab W) (hb : BAt W b ba bools) (hr : RAt W b ra reals rq) (ho : OrAt W1 mo L) (hg : OwnE W1 G n 0 []) (hG : W.heap.size ≤ G) :
    GivesRk W b m bools ba bc reals rq ra rc n (.returned (.pointer (some ⟨W1.heap.size, 0, none⟩))) (W1.alloc (.cells #[.pointer (some ⟨b, 0, none⟩), .slice ba bools.length bc, .slice ra reals.length rc, .map (some mo), .slice (some ⟨G, 0, none⟩) 0 n] 77)) := by
  have hal := (Below.refl W1.heap.size W1).alloc (Nat.le_refl _) (.cells #[.pointer (some ⟨b, 0, none⟩), .slice ba bools.length bc, .slice ra reals.length rc, .map (some mo), .slice (some ⟨G, 0, none⟩) 0 n] 77)
  have hbb := hb1.trans (hal.mono hb1.size)
  exact ⟨W1.heap.size, G, L, mo, rfl, hb1.size, hG, Lib.hid ⟨heap_alloc_new W1 _, hg.kept hal, rfl, fun k d v h1 h2 => by simp at h1, hb.kept hbb, hr.kept hbb, ho.kept hal, hB.kept hbb, hT.kept hbb⟩, Lib.hid hbb⟩
set_option maxRecDepth 100000 in
set_option maxHeartbeats 4000000 in
theorem newReckoner_any (n : Nat) (hn : n ≤ 1000000) (hB : Bench W b m false) (hT : Tab W) (hb : BAt W b ba bools) (hr : RAt W b ra reals rq) :
    Calls Tryz.prog 24 #[.pointer (some ⟨b, 0, none⟩), .slice ba bools.length bc, .slice ra reals.length rc, .int .i64 (n : Int)] W (GivesRk W b m bools ba bc reals rq ra rc n) := by
  have HO : Hid (∀ W', Below W.heap.size W W' → Calls Tryz.prog 38 #[] W' (fun e w' => e = .returned (.map (some (W'.heap.size + 1))) ∧ OrAt w' (W'.heap.size + 1) W'.heap.size ∧ Below W'.heap.size W' w')) := Lib.hid fun W' _ => orders_any W'
  have hmk := fun w => run_makeV n hn w
  have H0 := Lib.hid (And.intro hB (And.intro hT (And.intro hb hr)))
  have HD := Lib.hid (below_drew W)
  clear hB hT hb hr
  go_enter Tryz.func24, Tryz.ntmps24
  go_wp2_with fail
  refine wp_region_held_drew (S := (fun _ => True)) (by kernel_rfl) ?_ (fun hHeld => ?_)
  · trivial
  refine wpAnyH_take (i := 0) (v := ?_) (by rfl) (by kernel_rfl) (by kernel_rfl) (by kernel_rfl) (by exact fun _ _ _ h => h) (Or.inl ⟨by rfl, ?_⟩) hHeld ?_
  rotate_left 1
  · intro w' hSw
    (try dsimp only at hSw)
    go_simp
    try with_reducible rfl
  try simp only [Act.put, List.setIfInBounds_toArray, List.set_cons_zero, List.set_cons_succ, List.getElem_toArray, List.getElem_cons_zero, List.getElem_cons_succ]
  refine wpAnyH_take (i := 1) (v := ?_) (by rfl) (by kernel_rfl) (by kernel_rfl) (by kernel_rfl) (by exact fun _ _ _ h => h) (Or.inl ⟨by rfl, ?_⟩) hHeld ?_
  rotate_left 1
  · intro w' hSw
    (try dsimp only at hSw)
    go_simp
    try with_reducible rfl
  try simp only [Act.put, List.setIfInBounds_toArray, List.set_cons_zero, List.set_cons_succ, List.getElem_toArray, List.getElem_cons_zero, List.getElem_cons_succ]
  refine wpAnyH_take (i := 2) (v := ?_) (by rfl) (by kernel_rfl) (by kernel_rfl) (by kernel_rfl) (by exact fun _ _ _ h => h) (Or.inl ⟨by rfl, ?_⟩) hHeld ?_
  rotate_left 1
  · intro w' hSw
    (try dsimp only at hSw)
    go_simp
    try with_reducible rfl
  try simp only [Act.put, List.setIfInBounds_toArray, List.set_cons_zero, List.set_cons_succ, List.getElem_toArray, List.getElem_cons_zero, List.getElem_cons_succ]
  refine wpAnyH_take (i := 4) (v := ?_) (by rfl) (by kernel_rfl) (by kernel_rfl) (by kernel_rfl) (by exact fun _ _ _ h => h) (Or.inl ⟨by rfl, ?_⟩) hHeld ?_
  rotate_left 1
  · intro w' hSw
    (try dsimp only at hSw)
    go_simp
    try with_reducible rfl
  try simp only [Act.put, List.setIfInBounds_toArray, List.set_cons_zero, List.set_cons_succ, List.getElem_toArray, List.getElem_cons_zero, List.getElem_cons_succ]
  refine wpAnyH_ready (rs := [3, 5]) (by kernel_rfl) (by simp) ?_
  refine AllReadyH.cons (by rfl) (fun K hK => ?_) ?_
  · go_simp
    refine (HO.out _ HD.out).mono ?_
    rintro e w3 ⟨rfl, ho3, hb3⟩
    have HO3 := Lib.hid ho3
    have HB3 := Lib.hid ((HD.out).trans (hb3.mono (Below.size HD.out)))
    clear ho3 hb3
    refine hK.out _ _ ?_ (fun hHeld => ?_)
    · trivial
    clear hK K
    try simp only [Act.put, List.setIfInBounds_toArray, List.set_cons_zero, List.set_cons_succ, List.getElem_toArray, List.getElem_cons_zero, List.getElem_cons_succ]
    refine wpAnyH_ready (rs := [5]) (by kernel_rfl) (by simp) ?_
    refine AllReadyH.cons (by rfl) (fun K hK => ?_) AllReadyH.nil
    go_simp
    obtain ⟨w6, hw6⟩ : ∃ w6, w6 = (w3).alloc (.cells (madeCells zVal (n * 4)) 52) := ⟨_, rfl⟩
    rw [← hw6]
    have hal : Below (w3).heap.size (w3) w6 := by rw [hw6]; exact (Below.refl _ _).alloc (Nat.le_refl _) _
    have HG : Hid (OwnE w6 (w3).heap.size n 0 []) := Lib.hid (by rw [hw6]; exact own_made _ n)
    have HGL : Hid (W.heap.size ≤ (w3).heap.size) := Lib.hid (Below.size HB3.out)
    have HB6 := Lib.hid ((HB3.out).trans (hal.mono (Below.size HB3.out)))
    have HO6 := Lib.hid (HO3.out.kept hal)
    clear hal hw6
    refine hK.out _ _ ?_ (fun hHeld => ?_)
    · trivial
    clear hK K
    try simp only [Act.put, List.setIfInBounds_toArray, List.set_cons_zero, List.set_cons_succ, List.getElem_toArray, List.getElem_cons_zero, List.getElem_cons_succ]
    refine wpAnyH_take (i := 6) (v := ?_) (by rfl) (by kernel_rfl) (by kernel_rfl) (by kernel_rfl) (by exact fun _ _ _ h => h) (Or.inl ⟨by rfl, ?_⟩) hHeld ?_
    rotate_left 1
    · intro w' hSw
      (try dsimp only at hSw)
      go_simp
      try with_reducible rfl
    try simp only [Act.put, List.setIfInBounds_toArray, List.set_cons_zero, List.set_cons_succ, List.getElem_toArray, List.getElem_cons_zero, List.getElem_cons_succ]
    refine wpAnyH_ready (rs := [7]) (by kernel_rfl) (by simp) ?_
    refine AllReadyH.cons (by rfl) (fun K hK => ?_) AllReadyH.nil
    go_simp
    have HEND := Lib.hid (mk_reck (rc := rc) (bc := bc) HB6.out H0.out.1 H0.out.2.1 H0.out.2.2.1 H0.out.2.2.2 HO6.out HG.out HGL.out)
    refine hK.out _ _ ?_ (fun hHeld => ?_)
    · trivial
    clear hK K
    try simp only [Act.put, List.setIfInBounds_toArray, List.set_cons_zero, List.set_cons_succ, List.getElem_toArray, List.getElem_cons_zero, List.getElem_cons_succ]
    refine wpAnyH_take (i := 8) (v := ?_) (by rfl) (by kernel_rfl) (by kernel_rfl) (by kernel_rfl) (by exact fun _ _ _ h => h) (Or.inl ⟨by rfl, ?_⟩) hHeld ?_
    rotate_left 1
    · intro w' hSw
      (try dsimp only at hSw)
      go_simp
      try with_reducible rfl
    try simp only [Act.put, List.setIfInBounds_toArray, List.set_cons_zero, List.set_cons_succ, List.getElem_toArray, List.getElem_cons_zero, List.getElem_cons_succ]
    refine wpAnyH_done (by kernel_rfl) ?_ _
    clear hHeld
    go_wp2_with fail
    go_ret
    exact HEND.out
  refine AllReadyH.cons (by rfl) (fun K hK => ?_) ?_
  · go_simp
    obtain ⟨w6, hw6⟩ : ∃ w6, w6 = (W.alloc (.cells (madeCells zVal (n * 4)) 52)).drew := ⟨_, rfl⟩
    rw [← hw6]
    have HB6 : Hid (Below W.heap.size W w6) := Lib.hid (by rw [hw6]; exact ((Below.refl _ _).alloc (Nat.le_refl _) _).drew)
    have HG : Hid (OwnE w6 W.heap.size n 0 []) := Lib.hid (by rw [hw6]; exact (own_made W n).of_block rfl)
    have HGL : Hid (W.heap.size ≤ W.heap.size) := Lib.hid (Nat.le_refl _)
    clear hw6
    refine hK.out _ _ ?_ (fun hHeld => ?_)
    · trivial
    clear hK K
    try simp only [Act.put, List.setIfInBounds_toArray, List.set_cons_zero, List.set_cons_succ, List.getElem_toArray, List.getElem_cons_zero, List.getElem_cons_succ]
    refine wpAnyH_ready (rs := [3]) (by kernel_rfl) (by simp) ?_
    refine AllReadyH.cons (by rfl) (fun K hK => ?_) AllReadyH.nil
    go_simp
    refine (HO.out _ HB6.out).mono ?_
    rintro e w3 ⟨rfl, ho3, hb3⟩
    have HO3 := Lib.hid ho3
    have HB3 := Lib.hid ((HB6.out).trans (hb3.mono (Below.size HB6.out)))
    have HG3 := Lib.hid (HG.out.kept hb3)
    clear ho3 hb3
    refine hK.out _ _ ?_ (fun hHeld => ?_)
    · trivial
    clear hK K
    try simp only [Act.put, List.setIfInBounds_toArray, List.set_cons_zero, List.set_cons_succ, List.getElem_toArray, List.getElem_cons_zero, List.getElem_cons_succ]
    refine wpAnyH_take (i := 6) (v := ?_) (by rfl) (by kernel_rfl) (by kernel_rfl) (by kernel_rfl) (by exact fun _ _ _ h => h) (Or.inl ⟨by rfl, ?_⟩) hHeld ?_
    rotate_left 1
    · intro w' hSw
      (try dsimp only at hSw)
      go_simp
      try with_reducible rfl
    try simp only [Act.put, List.setIfInBounds_toArray, List.set_cons_zero, List.set_cons_succ, List.getElem_toArray, List.getElem_cons_zero, List.getElem_cons_succ]
    refine wpAnyH_ready (rs := [7]) (by kernel_rfl) (by simp) ?_
    refine AllReadyH.cons (by rfl) (fun K hK => ?_) AllReadyH.nil
    go_simp
    have HEND := Lib.hid (mk_reck (rc := rc) (bc := bc) HB3.out H0.out.1 H0.out.2.1 H0.out.2.2.1 H0.out.2.2.2 HO3.out HG3.out HGL.out)
    refine hK.out _ _ ?_ (fun hHeld => ?_)
    · trivial
    clear hK K
    try simp only [Act.put, List.setIfInBounds_toArray, List.set_cons_zero, List.set_cons_succ, List.getElem_toArray, List.getElem_cons_zero, List.getElem_cons_succ]
    refine wpAnyH_take (i := 8) (v := ?_) (by rfl) (by kernel_rfl) (by kernel_rfl) (by kernel_rfl) (by exact fun _ _ _ h => h) (Or.inl ⟨by rfl, ?_⟩) hHeld ?_
    rotate_left 1
    · intro w' hSw
      (try dsimp only at hSw)
      go_simp
      try with_reducible rfl
    try simp only [Act.put, List.setIfInBounds_toArray, List.set_cons_zero, List.set_cons_succ, List.getElem_toArray, List.getElem_cons_zero, List.getElem_cons_succ]
    refine wpAnyH_done (by kernel_rfl) ?_ _
    clear hHeld
    go_wp2_with fail
    go_ret
    exact HEND.out
  exact AllReadyH.nil
end
theorem load_vs {oo : Oper} {a : Act} {w : World} (x : Operand) (ho : oo.op = .load 48 x) {b off : Nat} (hx : a.eval x = .pointer (some ⟨b, off, none⟩)) {v : Value} (hc : w.cell? ⟨b, off, none⟩ = some v) : (execOp a.eval oo).run Tryz.prog w = .ok (.value v) w := by
  unfold execOp
  simp only [ho, hx]
  go_simp
theorem run_app_op {oo : Oper} {a : Act} {w w' : World} {v : Value} (s x : Operand) (ho : oo.op = .call { callee := .builtin .append, args := #[s, x], argTypes := #[48, 48] }) {u1 u2 : Value} (h1 : a.eval s = u1) (h2 : a.eval x = u2)
    (hr : (Builtin.append_ #[48, 48] oo.type #[u1, u2]).run Tryz.prog w = .ok v w') : (execOp a.eval oo).run Tryz.prog w = .ok (.value v) w' := by
  unfold execOp
  simp only [ho, resolve, invoke, builtin, Sem.run_bind, Sem.run_pure, Result.andThen_ok, List.map_toArray, List.map_cons, List.map_nil, h1, h2, hr]
theorem app_room10 {w : World} {ty : TypeId} {g n cap : Nat} {xs : List Value} (hown : OwnE w g cap n xs) (hroom : n + 1 ≤ cap) (ax : Addr) (c : Nat) (d : RV) (hnews : ∀ j u, d.cells[j]? = some u → w.cell? (ax.add j) = some u) :
    ∃ w', (Builtin.append_ #[48, 48] ty #[.slice (some ⟨g, 0, none⟩) n cap, .slice (some ax) 1 c]).run Tryz.prog w = .ok (.slice (some ⟨g, 0, none⟩) (n + 1) cap) w' ∧ OwnE w' g cap (n + 1) (xs ++ d.cells) ∧ Chg (fun j => j = g) w w' := by
  obtain ⟨i, h1, h2, h3, h4⟩ := info_parts (show (Tryz.prog.info? 52).map (fun i => (i.zero, i.size, i.bytes)) = some (some (.agg zVal), 4, 64) from by kernel_rfl)
  obtain ⟨⟨cur, k1, k2, k3, k4⟩, k5, k6⟩ := hown
  have hl : d.cells.length = 4 := rfl
  have hr := run_append_room (P := Tryz.prog) w 48 ty 52 i Tryz.underlying48 h1 g n cap cur k1 ax 1 c d.cells (by rw [h3]; rfl) hnews (fun u hu => by have := one_cells d; simp [RV.cells] at hu; rcases hu with rfl | rfl | rfl | rfl <;> rfl) hroom (by rw [h3, hl, k2]; omega)
  rw [h3, k3] at hr
  refine ⟨_, hr, ⟨⟨_, setRow_heap w g cur _ 52 _ k1, ?_, ?_, ?_⟩, by rw [List.length_append, k5, hl]; omega, hroom⟩, ⟨rfl, rfl, rfl, by simp, fun k _ hk => setRow_other w g k _ hk⟩⟩
  · simp only [List.size_toArray, List.length_append, List.length_drop, Array.length_toList, k5, hl, k2]
    omega
  · have hlen : (xs ++ d.cells).length = (n + 1) * 4 := by rw [List.length_append, k5, hl]; omega
    simp only [List.append_assoc]
    rw [← List.append_assoc, ← hlen]
    exact List.take_left
  · intro u hu
    simp only [List.mem_append] at hu
    rcases hu with (hu | hu) | hu
    · rw [← k3] at hu
      exact k4 u (List.mem_of_mem_take hu)
    · exact good_cells d u hu
    · exact k4 u (List.mem_of_mem_drop hu)
theorem OwnE.noI {w : World} {g cap n : Nat} {xs : List Value} (h : OwnE w g cap n xs) : NoInt w g := fun off k i e => h.noInt e
theorem OrAt.chg {W W' : World} {mo L g : Nat} (h : OrAt W mo L) (hc : Chg (fun j => j = g) W W') (h1 : mo ≠ g) (h2 : L ≠ g) : OrAt W' mo L := ⟨h.map.chg hc h1, (hc.block L (Array.getElem?_eq_some_iff.1 h.cell).1 h2).trans h.cell⟩
theorem reck_next {W w5 w7 : World} {E : Env} {vs : List Vl} {rs : List RV} {d : RV} {v : Vl} (h0 : RkAt w5 E vs rs) (hroom : RoomM E.b E.m W w5) (hok : d.ok v w5) (hR : W.heap.size ≤ E.R) (hG : W.heap.size ≤ E.G)
    (hb : BAt W E.b E.ba E.bools) (hr : RAt W E.b E.ra E.reals E.rq) (hB : Bench W E.b E.m false)
    (hc : Chg (fun j => j = E.G) (w5.alloc (.cells d.cells.toArray 52)) w7) (ho : OwnE w7 E.G E.cap (vs.length + 1) (cellsOf rs ++ d.cells)) :
    (w7.cell? ⟨E.R, 4, none⟩ = some (.slice (some ⟨E.G, 0, none⟩) vs.length E.cap) ∧ w7.frozen? ⟨E.R, 4, none⟩ = false) ∧ RkAt (w7.setCell ⟨E.R, 4, none⟩ (.slice (some ⟨E.G, 0, none⟩) (vs.length + 1) E.cap)) E (vs ++ [v]) (rs ++ [d]) ∧ RoomM E.b E.m W (w7.setCell ⟨E.R, 4, none⟩ (.slice (some ⟨E.G, 0, none⟩) (vs.length + 1) E.cap)) := by
  have hal := (Below.refl w5.heap.size w5).alloc (Nat.le_refl _) (.cells d.cells.toArray 52)
  have h6 := h0.kept hal
  have hr6 := hroom.kept hal
  have hb6 := h6.bench
  unfold Bench at hb6
  have hRb : E.R ≠ E.b := tag_ne10 h6.head hb6 (by decide)
  have hGb : E.G ≠ E.b := h6.row.ne_cells hb6 (by decide)
  have hGR : E.G ≠ E.R := h6.row.ne_cells h6.head (by decide)
  have hmG : E.mo ≠ E.G := by
    obtain ⟨⟨cur, hcur, _⟩, _⟩ := h6.row
    exact h6.ords.map.ne hcur
  have hmR : E.mo ≠ E.R := h6.ords.map.ne h6.head
  have hLG : E.L ≠ E.G := fun e => h6.row.ne_cells h6.ords.cell (by decide) e.symm
  have hLR : E.L ≠ E.R := tag_ne10 h6.ords.cell h6.head (by decide)
  have hh7 := (hc.block E.R (Array.getElem?_eq_some_iff.1 h6.head).1 (fun e => hGR e.symm)).trans h6.head
  have hc2 : Chg (fun j => j = E.R) w7 (w7.setCell ⟨E.R, 4, none⟩ (.slice (some ⟨E.G, 0, none⟩) (vs.length + 1) E.cap)) := chg_setCell (S := fun j => j = E.R) rfl _ _ _
  have hnR : NoInt w7 E.R := fun off k i e => by rcases off with _ | _ | _ | _ | _ | off <;> simp [World.cell?, hh7] at e
  have hnG := h6.row.noI
  have hr7 := hr6.chg hc hG hGb hnG
  have hr8 := hr7.chg hc2 hR hRb hnR
  refine ⟨by simp [World.cell?, World.frozen?, hh7], ⟨?_, ?_, by simp [h0.len], ?_, hb.room hr8.g, hr.room hB hr8.g, (h6.ords.chg hc hmG hLG).chg hc2 hmR hLR, hr8.bench, hr8.tab⟩, hr8⟩
  · rw [heap_setCell_same w7 E.R 4 _ _ _ hh7, List.length_append]
    rfl
  · rw [cellsOf_app, List.length_append]
    have : cellsOf [d] = d.cells := by simp [cellsOf]
    rw [this]
    exact ho.of_block (hc2.block _ ho.lt hGR)
  · intro k d' v' h1 h2
    by_cases hk : k < rs.length
    · rw [List.getElem?_append_left hk] at h1
      rw [List.getElem?_append_left (by rw [← h0.len]; exact hk)] at h2
      exact ((h6.vals k d' v' h1 h2).past hnG hc).past hnR hc2
    · rw [List.getElem?_append_right (by omega)] at h1
      rw [List.getElem?_append_right (by rw [← h0.len]; omega), ← h0.len] at h2
      obtain ⟨hz, rfl⟩ : k - rs.length = 0 ∧ d = d' := by
        cases hq : k - rs.length with
        | zero => rw [hq] at h1; exact ⟨rfl, by simpa using h1⟩
        | succ j => rw [hq] at h1; simp at h1
      rw [hz] at h2
      obtain rfl : v = v' := by simpa using h2
      exact ((hok.kept hal).past hnG hc).past hnR hc2
structure NodesOk (W : World) (b : Nat) (a : Option Addr) (ts : List HN) (ens : List En) : Prop where
  nodes : NodesIn W a ts
  great : ∀ d ∈ ts, d.great = false
  len : ens.length = ts.length
  few : ts.length ≤ 1000
  at_b : ∀ g off, a = some ⟨g, off, none⟩ → g ≠ b
  each : ∀ (k : Nat) (d : HN) (n : En), ts[k]? = some d → ens[k]? = some n → n.op = d.op ∧ n.v = d.v ∧ n.kids = d.kids ∧ (∀ g off, d.ka = some ⟨g, off, none⟩ → g ≠ b) ∧ (n.op = 5 → VQ n.q (d.s, (d.a1, d.xs.length, d.c1), (d.a2, d.ds.length, d.c2)) W ∧ szQ n.q ≤ 48)
theorem values_mem {bools : List Bool} {reals : List Rat} {l : List En} (k : Nat) {v : Vl} (h : v ∈ values bools reals [] (l.take k)) : v ∈ values bools reals [] l := by
  have key : ∀ (m : List En) (vs : List Vl), v ∈ vs → v ∈ values bools reals vs m := by
    intro m
    induction m with
    | nil => intro vs h; exact h
    | cons n m ih => intro vs h; exact ih _ (List.mem_append_left _ h)
  rw [← List.take_append_drop k l, values_app]
  exact key _ _ h
def AllIs (W : World) (b m : Nat) (bools : List Bool) (reals : List Rat) (ens : List En) (n : Nat) (e : Ending) (W' : World) : Prop :=
  ∃ G cap rs, e = .returned (.tuple #[.slice (some ⟨G, 0, none⟩) n cap, .int .i64 0]) ∧ Hid (RoomM b m W W') ∧ Hid (W.heap.size ≤ G ∧ n ≤ cap ∧ OwnE W' G cap n (cellsOf rs) ∧ rs.length = n ∧ ∀ (k : Nat) (d : RV) (v : Vl), rs[k]? = some d → (values bools reals [] ens)[k]? = some v → d.ok v W')
set_option maxRecDepth 100000 in
set_option maxHeartbeats 16000000 in
theorem All_any {W : World} {b m : Nat} {bools : List Bool} {ba : Option Addr} {bc : Nat} {reals : List Rat} {rq : List RV} {ra : Option Addr} {rc : Nat} {a : Option Addr} {c : Nat} {ts : List HN} {ens : List En}
    (hN : NodesOk W b a ts ens) (hT : Tab W) (hB : Bench W b m false) (hb : BAt W b ba bools) (hr : RAt W b ra reals rq) (hbl : bools.length ≤ 1000) (hrl : reals.length ≤ 1000)
    (hrr : ∀ W', Below W.heap.size W W' → ∀ d ∈ rq, Calls Tryz.prog 37 #[.agg #[.bool d.s, .slice d.z1 d.m1 d.k1, .slice d.z2 d.m2 d.k2]] W' (GivesV (.bool true) W'))
    (hrun : runs (startRu bools.length reals.length) (ts.map HN.nd) = true) (hfit : ∀ (k : Nat) (n : En), ens[k]? = some n → Fit bools.length reals.length k n ∧ (1 ≤ n.op ∧ n.op ≤ 19) ∧ NodeSm m (values bools reals [] (ens.take k)) n)
    (hs : ∀ v ∈ values bools reals [] ens, szQ v.2 ≤ 48) (hsr : ∀ q ∈ reals, szQ q ≤ 48) :
    Calls Tryz.prog 11 #[.pointer (some ⟨b, 0, none⟩), .slice a ts.length c, .slice ba bools.length bc, .slice ra reals.length rc] W (AllIs W b m bools reals ens ts.length) := by
  have hTR := TRight_any (c := c) hN.nodes hT hN.great hN.few bools.length reals.length (by omega) (by omega)
  rw [hrun] at hTR
  have HTR := Lib.hid hTR
  have HAR : Hid (∀ W', Below W.heap.size W W' → Calls Tryz.prog 23 #[.slice ra reals.length rc] W' (GivesV (.bool true) W')) := Lib.hid fun W' hW' => by
    have := areRight_any (W := W') (a := ra) (c := rc) (rq := rq) (by
      rcases (hr.kept hW').at_ with e | ⟨g, off, e, _, h⟩
      · left
        have := hr.len
        rw [e] at this
        exact List.length_eq_zero_iff.1 this
      · exact .inr ⟨g, off, e, h⟩) (by rw [hr.len]; exact hrl) (fun W2 h2 => hrr W2 (hW'.trans (h2.mono hW'.size)))
    rw [hr.len] at this
    exact this
  have HNR : Hid (∀ W', Below W.heap.size W W' → Calls Tryz.prog 24 #[.pointer (some ⟨b, 0, none⟩), .slice ba bools.length bc, .slice ra reals.length rc, .int .i64 (ts.length : Int)] W' (GivesRk W' b m bools ba bc reals rq ra rc ts.length)) := Lib.hid fun W' hW' =>
    newReckoner_any ts.length (by have := hN.few; omega) (hB.kept hW') (hT.kept hW') (hb.kept hW') (hr.kept hW')
  have H0 := Lib.hid (And.intro hN (And.intro hT (And.intro hB (And.intro hb (And.intro hr (And.intro hfit (And.intro hs hsr)))))))
  obtain ⟨n, hn⟩ : ∃ n, ts.length = n := ⟨_, rfl⟩
  have HLN := Lib.hid hn
  rw [hn] at HTR HNR ⊢
  have hnf : n ≤ 1000 := by rw [← hn]; exact hN.few
  clear hN hT hB hb hr hrr hrun hfit hs hsr hTR hn
  go_enter Tryz.func11, Tryz.ntmps11
  go_wp2_with fail
  refine HTR.out.mono ?_
  rintro e w1 ⟨rfl, hb1⟩
  have HB1 := Lib.hid hb1
  clear hb1 HTR
  go_wp2_with fail
  refine (HAR.out _ HB1.out).mono ?_
  rintro e w2 ⟨rfl, hb2⟩
  have HB2 := Lib.hid (HB1.out.trans (hb2.mono HB1.out.size))
  clear hb2 HB1 HAR
  go_wp2_with fail
  refine (HNR.out _ HB2.out).mono ?_
  rintro e w3 ⟨R, G, L, mo, rfl, hR, hG, HRK, HB3⟩
  have HBW := Lib.hid (HB2.out.trans (HB3.out.mono HB2.out.size))
  have HRG : Hid (W.heap.size ≤ R ∧ W.heap.size ≤ G) := Lib.hid (by have := HB2.out.size; omega)
  clear HNR hR hG HB3 HB2
  go_wp2_with fail
  go_loopw [33] (fun (iv : Value) (wr : World) => ∃ k : Nat, k ≤ n ∧ iv = .int .i64 (k : Int) ∧ Hid (∃ rs, RkAt wr ⟨R, G, b, m, L, mo, n, bools, ba, bc, reals, rq, ra, rc⟩ (values bools reals [] (ens.take k)) rs ∧ RoomM b m W wr)) (fun iv _ => n - (intOf iv).toNat)
  case atStart => exact ⟨0, Nat.zero_le _, rfl, Lib.hid ⟨[], HRK.out, RoomM.of_below HBW.out H0.out.2.2.1 H0.out.2.1⟩⟩
  case round =>
    obtain ⟨k, hkn, rfl, HE⟩ := hrel
    clear HRK HBW
    obtain ⟨rs, hrk, hroom⟩ := HE.out
    obtain ⟨vk, hvk⟩ : ∃ vk, values bools reals [] (ens.take k) = vk := ⟨_, rfl⟩
    have hvl : vk.length = k := by
      rw [← hvk, values_len, List.length_take, H0.out.1.len, HLN.out]
      simp
      omega
    rw [hvk] at hrk
    by_cases hlt : k < n
    · have hh := H0.out
      obtain ⟨d, hd⟩ : ∃ d, ts[k]? = some d := ⟨_, List.getElem?_eq_getElem (by rw [HLN.out]; exact hlt)⟩
      obtain ⟨nn, hnn⟩ : ∃ nn, ens[k]? = some nn := ⟨_, List.getElem?_eq_getElem (by rw [hh.1.len, HLN.out]; exact hlt)⟩
      have hm := List.mem_of_getElem? hd
      obtain ⟨e1, e2, e3, e4, e5⟩ := hh.1.each k d nn hd hnn
      obtain ⟨g, off, rfl, hrW⟩ : ∃ g off, a = some ⟨g, off, none⟩ ∧ W.rangeAt g (off + k * 6) d.cells := by
        rcases hh.1.nodes.mem with e | ⟨g, off, e, h⟩
        · subst e; simp at hd
        · exact ⟨g, off, e, h k d hd⟩
      have hrg := range_room hrW hroom.g (hh.1.at_b g off rfl)
      have hkW := (hh.1.nodes.each d hm).kids
      have hgr := hh.1.great d hm
      unfold HN.great at hgr
      simp only [Bool.or_eq_false_iff, decide_eq_false_iff_not] at hgr
      have hkat : KAt wr d.ka nn.kids d.kc := by rw [e3]; exact (KAt.room ⟨hkW.at_, hkW.cap, hkW.capped, hkW.mid, by omega⟩ hroom e4)
      have hal := (Below.refl wr.heap.size wr).alloc (Nat.le_refl _) (.cells d.cells.toArray 33)
      have HOV := Lib.hid (over_any (wr.alloc (.cells d.cells.toArray 33)) b m false (hroom.bench.kept hal))
      have hald := hal.drew
      obtain ⟨f1, f2, f3⟩ := hh.2.2.2.2.2.1 k nn hnn
      have hq5 : nn.op = 5 → VQ nn.q (d.s, (d.a1, d.xs.length, d.c1), (d.a2, d.ds.length, d.c2)) (wr.alloc (.cells d.cells.toArray 33)).drew ∧ szQ nn.q ≤ 48 := fun h5 => ⟨((e5 h5).1.bench hh.2.2.1 hroom.g).kept10 hald, (e5 h5).2⟩
      rw [hvk] at f3
      have hva := value_any (hrk.kept hald) nn (hkat.kept hald) e4 (by rw [hvl]; exact f1) f2 (fun v hv => hh.2.2.2.2.2.2.1 v (values_mem k (by rw [hvk]; exact hv))) hh.2.2.2.2.2.2.2 d.s d.a1 d.xs.length d.c1 d.a2 d.ds.length d.c2 hq5 f3
      rw [e1, e2, e3] at hva
      have hnext : values bools reals [] (ens.take (k + 1)) = vk ++ [Ev.value bools reals vk nn] := by rw [values_take hnn, hvk]
      have HVA := Lib.hid hva
      have HNX := Lib.hid hnext
      have HST := Lib.hid (And.intro (hrk.kept hald) (And.intro (hroom.kept hald) hvl))
      obtain ⟨_, _, _, _, c4, _⟩ := hrk.cells
      rw [hvl] at c4
      have HX4 : Hid ((wr.alloc (.cells d.cells.toArray 33)).drew.cell? ⟨R, 4, none⟩ = some (.slice (some ⟨G, 0, none⟩) k n)) := Lib.hid (cell_kept c4 hald)
      have HXN : Hid ((wr.alloc (.cells d.cells.toArray 33)).drew.rangeAt wr.heap.size 0 d.cells) := Lib.hid (rangeAt_new wr d.cells 33)
      have hki : (k : Int) < (n : Int) := by omega
      have hiw : wrap64 ((k : Int) + 1) = (k : Int) + 1 := IntWalk.wrap64_in _ (by omega)
      clear hh hd hnn hm e1 e2 e3 e4 e5 hrW hkW hgr hkat hal hald f1 f2 f3 hq5 hva hnext hrk hroom hvk hvl c4 HE
      go_wp2_with (first | (refine wpList_val (.agg d.cells.toArray) (run_load_op 33 (.tmp 35) (by with_reducible rfl) g (off + k * 6) (by rfl) d.cells _ hrg Tryz.underlying33 rfl (by rw [size_node]; rfl)) (by rfl) ?_) | (with_reducible refine wpList_alloc_agg rfl 33 rfl zNode zero_node ?_) | (refine wpList_store_new rfl 33 (.tmp 12) (.tmp 36) (by with_reducible rfl) wr zNode d.cells.toArray (by rfl) (by rfl) (by rfl) (by rw [size_node]; rfl) (by rfl) (hn_one d) ?_))
      refine HOV.out.mono ?_
      rintro e w4 ⟨rfl, rfl⟩
      obtain ⟨W4, hW4⟩ : ∃ W4, W4 = wr.alloc (.cells d.cells.toArray 33) := ⟨_, rfl⟩
      rw [← hW4] at HVA HST HX4 HXN ⊢
      clear HOV hW4 hrg
      go_wp2_with fail
      refine wp_region_held_drew (S := (fun _ => True)) (by kernel_rfl) ?_ (fun hHeld => ?_)
      · trivial
      refine wpAnyH_take (i := 0) (v := ?_) (by rfl) (by kernel_rfl) (by kernel_rfl) (by kernel_rfl) (by exact fun _ _ _ h => h) (Or.inl ⟨by rfl, ?_⟩) hHeld ?_
      rotate_left 1
      · intro w' hSw
        (try dsimp only at hSw)
        go_simp
        try with_reducible rfl
      try simp only [Act.put, List.setIfInBounds_toArray, List.set_cons_zero, List.set_cons_succ, List.getElem_toArray, List.getElem_cons_zero, List.getElem_cons_succ]
      refine wpAnyH_take (i := 1) (v := ?_) (by rfl) (by kernel_rfl) (by kernel_rfl) (by kernel_rfl) (by exact fun _ _ _ h => h) (Or.inl ⟨by rfl, ?_⟩) hHeld ?_
      rotate_left 1
      · intro w' hSw
        (try dsimp only at hSw)
        go_simp
        try with_reducible rfl
      try simp only [Act.put, List.setIfInBounds_toArray, List.set_cons_zero, List.set_cons_succ, List.getElem_toArray, List.getElem_cons_zero, List.getElem_cons_succ]
      refine wpAnyH_take (i := 2) (v := ?_) (by rfl) (by kernel_rfl) (by kernel_rfl) (by kernel_rfl) (by exact fun _ _ _ h => h) (Or.inl ⟨by rfl, ?_⟩) hHeld ?_
      rotate_left 1
      · intro w' hSw
        (try dsimp only at hSw)
        go_simp
        try with_reducible rfl
      try simp only [Act.put, List.setIfInBounds_toArray, List.set_cons_zero, List.set_cons_succ, List.getElem_toArray, List.getElem_cons_zero, List.getElem_cons_succ]
      refine wpAnyH_take (i := 3) (v := ?_) (by rfl) (by kernel_rfl) (by kernel_rfl) (by kernel_rfl) (by exact fun _ _ _ h => h) (Or.inl ⟨by rfl, ?_⟩) hHeld ?_
      rotate_left 1
      · intro w' hSw
        (try dsimp only at hSw)
        go_simp
        try with_reducible rfl
      try simp only [Act.put, List.setIfInBounds_toArray, List.set_cons_zero, List.set_cons_succ, List.getElem_toArray, List.getElem_cons_zero, List.getElem_cons_succ]
      refine wpAnyH_take (i := 5) (v := ?_) (by rfl) (by kernel_rfl) (by kernel_rfl) (by kernel_rfl) (by exact fun _ _ _ h => h) (Or.inl ⟨by rfl, ?_⟩) hHeld ?_
      rotate_left 1
      · intro w' hSw
        (try dsimp only at hSw)
        go_simp
        try with_reducible rfl
      try simp only [Act.put, List.setIfInBounds_toArray, List.set_cons_zero, List.set_cons_succ, List.getElem_toArray, List.getElem_cons_zero, List.getElem_cons_succ]
      refine wpAnyH_ready (rs := [4, 6]) (by kernel_rfl) (by simp) ?_
      refine AllReadyH.cons (by rfl) (fun K hK => ?_) ?_
      · refine step_val _ (load_vs (.tmp 42) rfl rfl HX4.out) rfl ?_
        refine hK.out _ _ ?_ (fun hHeld => ?_)
        · trivial
        clear hK K
        try simp only [Act.put, List.setIfInBounds_toArray, List.set_cons_zero, List.set_cons_succ, List.getElem_toArray, List.getElem_cons_zero, List.getElem_cons_succ]
        refine wpAnyH_ready (rs := [6]) (by kernel_rfl) (by simp) ?_
        refine AllReadyH.cons (by rfl) (fun K hK => ?_) AllReadyH.nil
        refine step_val (.agg #[.int .i64 d.op, .int .i64 d.v, .slice d.ka d.kids.length d.kc, .bool d.s, .slice d.a1 d.xs.length d.c1, .slice d.a2 d.ds.length d.c2]) (run_load_op 33 (.tmp 12) rfl wr.heap.size 0 rfl d.cells _ HXN.out Tryz.underlying33 rfl (by rw [size_node]; rfl)) rfl ?_
        refine hK.out _ _ ?_ (fun hHeld => ?_)
        · trivial
        clear hK K
        try simp only [Act.put, List.setIfInBounds_toArray, List.set_cons_zero, List.set_cons_succ, List.getElem_toArray, List.getElem_cons_zero, List.getElem_cons_succ]
        refine wpAnyH_ready (rs := [7]) (by kernel_rfl) (by simp) ?_
        refine AllReadyH.cons (by rfl) (fun K hK => ?_) AllReadyH.nil
        go_simp
        refine HVA.out.mono ?_
        rintro e w5 ⟨d5, rfl, R5, K5⟩
        have H5 := HST.out.1.room R5.out
        have HX5 : Hid (w5.cell? ⟨R, 4, none⟩ = some (.slice (some ⟨G, 0, none⟩) k n)) := Lib.hid (by obtain ⟨_, _, _, _, c4, _⟩ := H5.cells; rw [HST.out.2.2] at c4; exact c4)
        refine hK.out _ _ ?_ (fun hHeld => ?_)
        · trivial
        clear hK K
        try simp only [Act.put, List.setIfInBounds_toArray, List.set_cons_zero, List.set_cons_succ, List.getElem_toArray, List.getElem_cons_zero, List.getElem_cons_succ]
        refine wpAnyH_ready (rs := [8]) (by kernel_rfl) (by simp) ?_
        refine AllReadyH.cons (by rfl) (fun K hK => ?_) AllReadyH.nil
        go_simp
        have hal5 := (Below.refl w5.heap.size w5).alloc (Nat.le_refl _) (.cells #[.bool d5.t, .bool d5.s, .slice d5.z1 d5.m1 d5.k1, .slice d5.z2 d5.m2 d5.k2] 52)
        have HX6 : Hid ((w5.alloc (.cells #[.bool d5.t, .bool d5.s, .slice d5.z1 d5.m1 d5.k1, .slice d5.z2 d5.m2 d5.k2] 52)).cell? ⟨R, 4, none⟩ = some (.slice (some ⟨G, 0, none⟩) k n)) := Lib.hid (cell_kept HX5.out hal5)
        refine hK.out _ _ ?_ (fun hHeld => ?_)
        · trivial
        clear hK K
        try simp only [Act.put, List.setIfInBounds_toArray, List.set_cons_zero, List.set_cons_succ, List.getElem_toArray, List.getElem_cons_zero, List.getElem_cons_succ]
        refine wpAnyH_ready (rs := [9]) (by kernel_rfl) (by simp) ?_
        refine AllReadyH.cons (by rfl) (fun K hK => ?_) AllReadyH.nil
        obtain ⟨w7, hrun7, ho7, hc7⟩ := app_room10 (w := w5.alloc (.cells #[.bool d5.t, .bool d5.s, .slice d5.z1 d5.m1 d5.k1, .slice d5.z2 d5.m2 d5.k2] 52)) (ty := 48) (by have := (H5.kept hal5).row; rw [HST.out.2.2] at this; exact this) (by show k + 1 ≤ n; omega) ⟨w5.heap.size, 0, none⟩ 1 d5 (fun j u hu => by rw [Addr.add_mid]; exact rangeAt_new w5 d5.cells 52 j u hu)
        obtain ⟨hcf, hnx, hrm⟩ := reck_next H5 (HST.out.2.1.trans R5.out) K5.out HRG.out.1 HRG.out.2 H0.out.2.2.2.1 H0.out.2.2.2.2.1 H0.out.2.2.1 hc7 (by rw [HST.out.2.2]; exact ho7)
        rw [HST.out.2.2] at hcf hnx hrm
        refine Rg.step_run _ _ (run_app_op (.tmp 43) (.tmp 47) rfl rfl rfl hrun7) (by rfl) ?_
        have HNXX := Lib.hid (And.intro hnx hrm)
        obtain ⟨hcf1, hcf2⟩ := hcf
        clear hnx hrm hrun7 ho7 hc7
        refine hK.out _ _ ?_ (fun hHeld => ?_)
        · trivial
        clear hK K
        try simp only [Act.put, List.setIfInBounds_toArray, List.set_cons_zero, List.set_cons_succ, List.getElem_toArray, List.getElem_cons_zero, List.getElem_cons_succ]
        refine wpAnyH_take (i := 10) (v := ?_) (by rfl) (by kernel_rfl) (by kernel_rfl) (by kernel_rfl) (by exact fun _ _ _ h => h) (Or.inl ⟨by rfl, ?_⟩) hHeld ?_
        rotate_left 1
        · intro w' hSw
          (try dsimp only at hSw)
          go_simp
          try with_reducible rfl
        try simp only [Act.put, List.setIfInBounds_toArray, List.set_cons_zero, List.set_cons_succ, List.getElem_toArray, List.getElem_cons_zero, List.getElem_cons_succ]
        refine wpAnyH_take (i := 11) (v := ?_) (by rfl) (by kernel_rfl) (by kernel_rfl) (by kernel_rfl) (by exact fun _ _ _ h => h) (Or.inl ⟨by rfl, ?_⟩) hHeld ?_
        rotate_left 1
        · intro w' hSw
          (try dsimp only at hSw)
          go_simp
          try with_reducible rfl
        try simp only [Act.put, List.setIfInBounds_toArray, List.set_cons_zero, List.set_cons_succ, List.getElem_toArray, List.getElem_cons_zero, List.getElem_cons_succ]
        refine wpAnyH_ready (rs := [12]) (by kernel_rfl) (by simp) ?_
        refine AllReadyH.cons (by rfl) (fun K hK => ?_) AllReadyH.nil
        go_simp
        refine hK.out _ _ ?_ (fun hHeld => ?_)
        · trivial
        clear hK K
        try simp only [Act.put, List.setIfInBounds_toArray, List.set_cons_zero, List.set_cons_succ, List.getElem_toArray, List.getElem_cons_zero, List.getElem_cons_succ]
        refine wpAnyH_done (by kernel_rfl) ?_ _
        clear hHeld
        go_wp2_with fail
        go_roundw
        case rel => exact ⟨k + 1, by omega, by go_num, Lib.hid ⟨rs ++ [d5], by rw [HNX.out]; exact HNXX.out.1, HNXX.out.2⟩⟩
        case measure => simp [intOf]; omega
      refine AllReadyH.cons (by rfl) (fun K hK => ?_) ?_
      · refine step_val (.agg #[.int .i64 d.op, .int .i64 d.v, .slice d.ka d.kids.length d.kc, .bool d.s, .slice d.a1 d.xs.length d.c1, .slice d.a2 d.ds.length d.c2]) (run_load_op 33 (.tmp 12) rfl wr.heap.size 0 rfl d.cells _ HXN.out Tryz.underlying33 rfl (by rw [size_node]; rfl)) rfl ?_
        refine hK.out _ _ ?_ (fun hHeld => ?_)
        · trivial
        clear hK K
        try simp only [Act.put, List.setIfInBounds_toArray, List.set_cons_zero, List.set_cons_succ, List.getElem_toArray, List.getElem_cons_zero, List.getElem_cons_succ]
        refine wpAnyH_ready (rs := [4, 7]) (by kernel_rfl) (by simp) ?_
        refine AllReadyH.cons (by rfl) (fun K hK => ?_) ?_
        · refine step_val _ (load_vs (.tmp 42) rfl rfl HX4.out) rfl ?_
          refine hK.out _ _ ?_ (fun hHeld => ?_)
          · trivial
          clear hK K
          try simp only [Act.put, List.setIfInBounds_toArray, List.set_cons_zero, List.set_cons_succ, List.getElem_toArray, List.getElem_cons_zero, List.getElem_cons_succ]
          refine wpAnyH_ready (rs := [7]) (by kernel_rfl) (by simp) ?_
          refine AllReadyH.cons (by rfl) (fun K hK => ?_) AllReadyH.nil
          go_simp
          refine HVA.out.mono ?_
          rintro e w5 ⟨d5, rfl, R5, K5⟩
          have H5 := HST.out.1.room R5.out
          have HX5 : Hid (w5.cell? ⟨R, 4, none⟩ = some (.slice (some ⟨G, 0, none⟩) k n)) := Lib.hid (by obtain ⟨_, _, _, _, c4, _⟩ := H5.cells; rw [HST.out.2.2] at c4; exact c4)
          refine hK.out _ _ ?_ (fun hHeld => ?_)
          · trivial
          clear hK K
          try simp only [Act.put, List.setIfInBounds_toArray, List.set_cons_zero, List.set_cons_succ, List.getElem_toArray, List.getElem_cons_zero, List.getElem_cons_succ]
          refine wpAnyH_ready (rs := [8]) (by kernel_rfl) (by simp) ?_
          refine AllReadyH.cons (by rfl) (fun K hK => ?_) AllReadyH.nil
          go_simp
          have hal5 := (Below.refl w5.heap.size w5).alloc (Nat.le_refl _) (.cells #[.bool d5.t, .bool d5.s, .slice d5.z1 d5.m1 d5.k1, .slice d5.z2 d5.m2 d5.k2] 52)
          have HX6 : Hid ((w5.alloc (.cells #[.bool d5.t, .bool d5.s, .slice d5.z1 d5.m1 d5.k1, .slice d5.z2 d5.m2 d5.k2] 52)).cell? ⟨R, 4, none⟩ = some (.slice (some ⟨G, 0, none⟩) k n)) := Lib.hid (cell_kept HX5.out hal5)
          refine hK.out _ _ ?_ (fun hHeld => ?_)
          · trivial
          clear hK K
          try simp only [Act.put, List.setIfInBounds_toArray, List.set_cons_zero, List.set_cons_succ, List.getElem_toArray, List.getElem_cons_zero, List.getElem_cons_succ]
          refine wpAnyH_ready (rs := [9]) (by kernel_rfl) (by simp) ?_
          refine AllReadyH.cons (by rfl) (fun K hK => ?_) AllReadyH.nil
          obtain ⟨w7, hrun7, ho7, hc7⟩ := app_room10 (w := w5.alloc (.cells #[.bool d5.t, .bool d5.s, .slice d5.z1 d5.m1 d5.k1, .slice d5.z2 d5.m2 d5.k2] 52)) (ty := 48) (by have := (H5.kept hal5).row; rw [HST.out.2.2] at this; exact this) (by show k + 1 ≤ n; omega) ⟨w5.heap.size, 0, none⟩ 1 d5 (fun j u hu => by rw [Addr.add_mid]; exact rangeAt_new w5 d5.cells 52 j u hu)
          obtain ⟨hcf, hnx, hrm⟩ := reck_next H5 (HST.out.2.1.trans R5.out) K5.out HRG.out.1 HRG.out.2 H0.out.2.2.2.1 H0.out.2.2.2.2.1 H0.out.2.2.1 hc7 (by rw [HST.out.2.2]; exact ho7)
          rw [HST.out.2.2] at hcf hnx hrm
          refine Rg.step_run _ _ (run_app_op (.tmp 43) (.tmp 47) rfl rfl rfl hrun7) (by rfl) ?_
          have HNXX := Lib.hid (And.intro hnx hrm)
          obtain ⟨hcf1, hcf2⟩ := hcf
          clear hnx hrm hrun7 ho7 hc7
          refine hK.out _ _ ?_ (fun hHeld => ?_)
          · trivial
          clear hK K
          try simp only [Act.put, List.setIfInBounds_toArray, List.set_cons_zero, List.set_cons_succ, List.getElem_toArray, List.getElem_cons_zero, List.getElem_cons_succ]
          refine wpAnyH_take (i := 10) (v := ?_) (by rfl) (by kernel_rfl) (by kernel_rfl) (by kernel_rfl) (by exact fun _ _ _ h => h) (Or.inl ⟨by rfl, ?_⟩) hHeld ?_
          rotate_left 1
          · intro w' hSw
            (try dsimp only at hSw)
            go_simp
            try with_reducible rfl
          try simp only [Act.put, List.setIfInBounds_toArray, List.set_cons_zero, List.set_cons_succ, List.getElem_toArray, List.getElem_cons_zero, List.getElem_cons_succ]
          refine wpAnyH_take (i := 11) (v := ?_) (by rfl) (by kernel_rfl) (by kernel_rfl) (by kernel_rfl) (by exact fun _ _ _ h => h) (Or.inl ⟨by rfl, ?_⟩) hHeld ?_
          rotate_left 1
          · intro w' hSw
            (try dsimp only at hSw)
            go_simp
            try with_reducible rfl
          try simp only [Act.put, List.setIfInBounds_toArray, List.set_cons_zero, List.set_cons_succ, List.getElem_toArray, List.getElem_cons_zero, List.getElem_cons_succ]
          refine wpAnyH_ready (rs := [12]) (by kernel_rfl) (by simp) ?_
          refine AllReadyH.cons (by rfl) (fun K hK => ?_) AllReadyH.nil
          go_simp
          refine hK.out _ _ ?_ (fun hHeld => ?_)
          · trivial
          clear hK K
          try simp only [Act.put, List.setIfInBounds_toArray, List.set_cons_zero, List.set_cons_succ, List.getElem_toArray, List.getElem_cons_zero, List.getElem_cons_succ]
          refine wpAnyH_done (by kernel_rfl) ?_ _
          clear hHeld
          go_wp2_with fail
          go_roundw
          case rel => exact ⟨k + 1, by omega, by go_num, Lib.hid ⟨rs ++ [d5], by rw [HNX.out]; exact HNXX.out.1, HNXX.out.2⟩⟩
          case measure => simp [intOf]; omega
        refine AllReadyH.cons (by rfl) (fun K hK => ?_) ?_
        · go_simp
          refine HVA.out.mono ?_
          rintro e w5 ⟨d5, rfl, R5, K5⟩
          have H5 := HST.out.1.room R5.out
          have HX5 : Hid (w5.cell? ⟨R, 4, none⟩ = some (.slice (some ⟨G, 0, none⟩) k n)) := Lib.hid (by obtain ⟨_, _, _, _, c4, _⟩ := H5.cells; rw [HST.out.2.2] at c4; exact c4)
          refine hK.out _ _ ?_ (fun hHeld => ?_)
          · trivial
          clear hK K
          try simp only [Act.put, List.setIfInBounds_toArray, List.set_cons_zero, List.set_cons_succ, List.getElem_toArray, List.getElem_cons_zero, List.getElem_cons_succ]
          refine wpAnyH_ready (rs := [4, 8]) (by kernel_rfl) (by simp) ?_
          refine AllReadyH.cons (by rfl) (fun K hK => ?_) ?_
          · refine step_val _ (load_vs (.tmp 42) rfl rfl HX5.out) rfl ?_
            refine hK.out _ _ ?_ (fun hHeld => ?_)
            · trivial
            clear hK K
            try simp only [Act.put, List.setIfInBounds_toArray, List.set_cons_zero, List.set_cons_succ, List.getElem_toArray, List.getElem_cons_zero, List.getElem_cons_succ]
            refine wpAnyH_ready (rs := [8]) (by kernel_rfl) (by simp) ?_
            refine AllReadyH.cons (by rfl) (fun K hK => ?_) AllReadyH.nil
            go_simp
            have hal5 := (Below.refl w5.heap.size w5).alloc (Nat.le_refl _) (.cells #[.bool d5.t, .bool d5.s, .slice d5.z1 d5.m1 d5.k1, .slice d5.z2 d5.m2 d5.k2] 52)
            have HX6 : Hid ((w5.alloc (.cells #[.bool d5.t, .bool d5.s, .slice d5.z1 d5.m1 d5.k1, .slice d5.z2 d5.m2 d5.k2] 52)).cell? ⟨R, 4, none⟩ = some (.slice (some ⟨G, 0, none⟩) k n)) := Lib.hid (cell_kept HX5.out hal5)
            refine hK.out _ _ ?_ (fun hHeld => ?_)
            · trivial
            clear hK K
            try simp only [Act.put, List.setIfInBounds_toArray, List.set_cons_zero, List.set_cons_succ, List.getElem_toArray, List.getElem_cons_zero, List.getElem_cons_succ]
            refine wpAnyH_ready (rs := [9]) (by kernel_rfl) (by simp) ?_
            refine AllReadyH.cons (by rfl) (fun K hK => ?_) AllReadyH.nil
            obtain ⟨w7, hrun7, ho7, hc7⟩ := app_room10 (w := w5.alloc (.cells #[.bool d5.t, .bool d5.s, .slice d5.z1 d5.m1 d5.k1, .slice d5.z2 d5.m2 d5.k2] 52)) (ty := 48) (by have := (H5.kept hal5).row; rw [HST.out.2.2] at this; exact this) (by show k + 1 ≤ n; omega) ⟨w5.heap.size, 0, none⟩ 1 d5 (fun j u hu => by rw [Addr.add_mid]; exact rangeAt_new w5 d5.cells 52 j u hu)
            obtain ⟨hcf, hnx, hrm⟩ := reck_next H5 (HST.out.2.1.trans R5.out) K5.out HRG.out.1 HRG.out.2 H0.out.2.2.2.1 H0.out.2.2.2.2.1 H0.out.2.2.1 hc7 (by rw [HST.out.2.2]; exact ho7)
            rw [HST.out.2.2] at hcf hnx hrm
            refine Rg.step_run _ _ (run_app_op (.tmp 43) (.tmp 47) rfl rfl rfl hrun7) (by rfl) ?_
            have HNXX := Lib.hid (And.intro hnx hrm)
            obtain ⟨hcf1, hcf2⟩ := hcf
            clear hnx hrm hrun7 ho7 hc7
            refine hK.out _ _ ?_ (fun hHeld => ?_)
            · trivial
            clear hK K
            try simp only [Act.put, List.setIfInBounds_toArray, List.set_cons_zero, List.set_cons_succ, List.getElem_toArray, List.getElem_cons_zero, List.getElem_cons_succ]
            refine wpAnyH_take (i := 10) (v := ?_) (by rfl) (by kernel_rfl) (by kernel_rfl) (by kernel_rfl) (by exact fun _ _ _ h => h) (Or.inl ⟨by rfl, ?_⟩) hHeld ?_
            rotate_left 1
            · intro w' hSw
              (try dsimp only at hSw)
              go_simp
              try with_reducible rfl
            try simp only [Act.put, List.setIfInBounds_toArray, List.set_cons_zero, List.set_cons_succ, List.getElem_toArray, List.getElem_cons_zero, List.getElem_cons_succ]
            refine wpAnyH_take (i := 11) (v := ?_) (by rfl) (by kernel_rfl) (by kernel_rfl) (by kernel_rfl) (by exact fun _ _ _ h => h) (Or.inl ⟨by rfl, ?_⟩) hHeld ?_
            rotate_left 1
            · intro w' hSw
              (try dsimp only at hSw)
              go_simp
              try with_reducible rfl
            try simp only [Act.put, List.setIfInBounds_toArray, List.set_cons_zero, List.set_cons_succ, List.getElem_toArray, List.getElem_cons_zero, List.getElem_cons_succ]
            refine wpAnyH_ready (rs := [12]) (by kernel_rfl) (by simp) ?_
            refine AllReadyH.cons (by rfl) (fun K hK => ?_) AllReadyH.nil
            go_simp
            refine hK.out _ _ ?_ (fun hHeld => ?_)
            · trivial
            clear hK K
            try simp only [Act.put, List.setIfInBounds_toArray, List.set_cons_zero, List.set_cons_succ, List.getElem_toArray, List.getElem_cons_zero, List.getElem_cons_succ]
            refine wpAnyH_done (by kernel_rfl) ?_ _
            clear hHeld
            go_wp2_with fail
            go_roundw
            case rel => exact ⟨k + 1, by omega, by go_num, Lib.hid ⟨rs ++ [d5], by rw [HNX.out]; exact HNXX.out.1, HNXX.out.2⟩⟩
            case measure => simp [intOf]; omega
          refine AllReadyH.cons (by rfl) (fun K hK => ?_) ?_
          · go_simp
            have hal5 := (Below.refl w5.heap.size w5).alloc (Nat.le_refl _) (.cells #[.bool d5.t, .bool d5.s, .slice d5.z1 d5.m1 d5.k1, .slice d5.z2 d5.m2 d5.k2] 52)
            have HX6 : Hid ((w5.alloc (.cells #[.bool d5.t, .bool d5.s, .slice d5.z1 d5.m1 d5.k1, .slice d5.z2 d5.m2 d5.k2] 52)).cell? ⟨R, 4, none⟩ = some (.slice (some ⟨G, 0, none⟩) k n)) := Lib.hid (cell_kept HX5.out hal5)
            refine hK.out _ _ ?_ (fun hHeld => ?_)
            · trivial
            clear hK K
            try simp only [Act.put, List.setIfInBounds_toArray, List.set_cons_zero, List.set_cons_succ, List.getElem_toArray, List.getElem_cons_zero, List.getElem_cons_succ]
            refine wpAnyH_ready (rs := [4]) (by kernel_rfl) (by simp) ?_
            refine AllReadyH.cons (by rfl) (fun K hK => ?_) AllReadyH.nil
            refine step_val _ (load_vs (.tmp 42) rfl rfl HX6.out) rfl ?_
            refine hK.out _ _ ?_ (fun hHeld => ?_)
            · trivial
            clear hK K
            try simp only [Act.put, List.setIfInBounds_toArray, List.set_cons_zero, List.set_cons_succ, List.getElem_toArray, List.getElem_cons_zero, List.getElem_cons_succ]
            refine wpAnyH_ready (rs := [9]) (by kernel_rfl) (by simp) ?_
            refine AllReadyH.cons (by rfl) (fun K hK => ?_) AllReadyH.nil
            obtain ⟨w7, hrun7, ho7, hc7⟩ := app_room10 (w := w5.alloc (.cells #[.bool d5.t, .bool d5.s, .slice d5.z1 d5.m1 d5.k1, .slice d5.z2 d5.m2 d5.k2] 52)) (ty := 48) (by have := (H5.kept hal5).row; rw [HST.out.2.2] at this; exact this) (by show k + 1 ≤ n; omega) ⟨w5.heap.size, 0, none⟩ 1 d5 (fun j u hu => by rw [Addr.add_mid]; exact rangeAt_new w5 d5.cells 52 j u hu)
            obtain ⟨hcf, hnx, hrm⟩ := reck_next H5 (HST.out.2.1.trans R5.out) K5.out HRG.out.1 HRG.out.2 H0.out.2.2.2.1 H0.out.2.2.2.2.1 H0.out.2.2.1 hc7 (by rw [HST.out.2.2]; exact ho7)
            rw [HST.out.2.2] at hcf hnx hrm
            refine Rg.step_run _ _ (run_app_op (.tmp 43) (.tmp 47) rfl rfl rfl hrun7) (by rfl) ?_
            have HNXX := Lib.hid (And.intro hnx hrm)
            obtain ⟨hcf1, hcf2⟩ := hcf
            clear hnx hrm hrun7 ho7 hc7
            refine hK.out _ _ ?_ (fun hHeld => ?_)
            · trivial
            clear hK K
            try simp only [Act.put, List.setIfInBounds_toArray, List.set_cons_zero, List.set_cons_succ, List.getElem_toArray, List.getElem_cons_zero, List.getElem_cons_succ]
            refine wpAnyH_take (i := 10) (v := ?_) (by rfl) (by kernel_rfl) (by kernel_rfl) (by kernel_rfl) (by exact fun _ _ _ h => h) (Or.inl ⟨by rfl, ?_⟩) hHeld ?_
            rotate_left 1
            · intro w' hSw
              (try dsimp only at hSw)
              go_simp
              try with_reducible rfl
            try simp only [Act.put, List.setIfInBounds_toArray, List.set_cons_zero, List.set_cons_succ, List.getElem_toArray, List.getElem_cons_zero, List.getElem_cons_succ]
            refine wpAnyH_take (i := 11) (v := ?_) (by rfl) (by kernel_rfl) (by kernel_rfl) (by kernel_rfl) (by exact fun _ _ _ h => h) (Or.inl ⟨by rfl, ?_⟩) hHeld ?_
            rotate_left 1
            · intro w' hSw
              (try dsimp only at hSw)
              go_simp
              try with_reducible rfl
            try simp only [Act.put, List.setIfInBounds_toArray, List.set_cons_zero, List.set_cons_succ, List.getElem_toArray, List.getElem_cons_zero, List.getElem_cons_succ]
            refine wpAnyH_ready (rs := [12]) (by kernel_rfl) (by simp) ?_
            refine AllReadyH.cons (by rfl) (fun K hK => ?_) AllReadyH.nil
            go_simp
            refine hK.out _ _ ?_ (fun hHeld => ?_)
            · trivial
            clear hK K
            try simp only [Act.put, List.setIfInBounds_toArray, List.set_cons_zero, List.set_cons_succ, List.getElem_toArray, List.getElem_cons_zero, List.getElem_cons_succ]
            refine wpAnyH_done (by kernel_rfl) ?_ _
            clear hHeld
            go_wp2_with fail
            go_roundw
            case rel => exact ⟨k + 1, by omega, by go_num, Lib.hid ⟨rs ++ [d5], by rw [HNX.out]; exact HNXX.out.1, HNXX.out.2⟩⟩
            case measure => simp [intOf]; omega
          exact AllReadyH.nil
        exact AllReadyH.nil
      exact AllReadyH.nil
    · obtain rfl : k = n := by omega
      have hfull : ens.take k = ens := List.take_of_length_le (by rw [H0.out.1.len, HLN.out]; exact Nat.le_refl _)
      rw [hfull] at hvk
      have HOV := Lib.hid (over_any wr b m false hroom.bench)
      obtain ⟨_, _, _, _, c4, _⟩ := hrk.cells
      rw [hvl] at c4
      have hrow := hrk.row
      rw [hvl] at hrow
      have hfin : AllIs W b m bools reals ens k (.returned (.tuple #[.slice (some ⟨G, 0, none⟩) k k, .int .i64 0])) wr := ⟨G, k, rs, rfl, Lib.hid hroom, Lib.hid ⟨HRG.out.2, Nat.le_refl _, hrow, hrk.len.trans hvl, fun j d v h1 h2 => hrk.vals j d v h1 (by rw [← hvk]; exact h2)⟩⟩
      have HFIN := Lib.hid hfin
      clear hfin hrow hrk hroom hvk hvl hfull HE
      go_wp2_with fail
      refine HOV.out.mono ?_
      rintro e w4 ⟨rfl, rfl⟩
      go_wp2_with fail
      refine bodyPost_ret (v := .tuple #[.slice (some ⟨G, 0, none⟩) k k, .int .i64 0]) ?_ rfl HFIN.out
      simp [results, Tryz.results11, asAddr, Act.put]
end Go.Proofs.YthnklohpmcebkaaGreatDoor

set_option linter.unusedVariables false
set_option linter.unusedSimpArgs false
namespace Go.Proofs.YthnklohpmcebkaaGreatDoor
open Go.RowKit Tm Rep Ev
theorem Handed.room {W W' : World} {b m : Nat} {a : Option Addr} {c : Nat} {xs : List Nat} (h : Handed W a c xs) (hB : Bench W b m false) (hr : RoomM b m W W') : Handed W' a c xs := by
  refine ⟨h.lim, h.reads.grown hr.g ?_, h.le, h.cap⟩
  rcases h.reads with e | ⟨g, off, rfl, hrd⟩
  · exact .inl e
  · by_cases e : xs = []
    · exact .inl (by simp [e])
    · refine .inr fun g' off' hg hbq => ?_
      simp at hg hbq
      obtain ⟨rfl, rfl⟩ := hg
      subst hbq
      have h0 := hrd 0 _ (map_getElem? (xs := xs) (f := u32v) (List.length_pos_iff.2 e))
      unfold Bench at hB
      simp only [World.cell?, hB] at h0
      rcases off with _ | _ | off <;> simp [u32v] at h0
theorem NodesOk.kept {W W' : World} {b : Nat} {a : Option Addr} {ts : List HN} {ens : List En} (h : NodesOk W b a ts ens) (hb : Below W.heap.size W W') : NodesOk W' b a ts ens := by
  refine ⟨⟨?_, fun p hp => (h.nodes.each p hp).kept hb⟩, h.great, h.len, h.few, h.at_b, fun k d n h1 h2 => ?_⟩
  · rcases h.nodes.mem with e | ⟨g, off, e, hr⟩
    · exact .inl e
    · exact .inr ⟨g, off, e, fun k p hp => rangeAt_kept (hr k p hp) hb (rangeAt_lt (hr k p hp) (by simp [HN.cells]))⟩
  · obtain ⟨e1, e2, e3, e4, e5⟩ := h.each k d n h1 h2
    exact ⟨e1, e2, e3, e4, fun h5 => ⟨(e5 h5).1.kept10 hb, (e5 h5).2⟩⟩
theorem NodesOk.room {W W' : World} {b m : Nat} {a : Option Addr} {ts : List HN} {ens : List En} (h : NodesOk W b a ts ens) (hB : Bench W b m false) (hr : RoomM b m W W') : NodesOk W' b a ts ens := by
  refine ⟨⟨?_, fun p hp => ?_⟩, h.great, h.len, h.few, h.at_b, fun k d n h1 h2 => ?_⟩
  · rcases h.nodes.mem with e | ⟨g, off, e, hrr⟩
    · exact .inl e
    · exact .inr ⟨g, off, e, fun k p hp => range_room (hrr k p hp) hr.g (h.at_b g off e)⟩
  · have hh := h.nodes.each p hp
    obtain ⟨k, hk⟩ := List.getElem?_of_mem hp
    obtain ⟨n, hn⟩ : ∃ n, ens[k]? = some n := ⟨_, List.getElem?_eq_getElem (by rw [h.len]; exact (List.getElem?_eq_some_iff.1 hk).1)⟩
    obtain ⟨_, _, _, e4, _⟩ := h.each k p n hk hn
    refine ⟨⟨?_, hh.kids.cap, hh.kids.capped, hh.kids.mid⟩, ⟨hh.num.num.room hB hr, hh.num.den.room hB hr⟩⟩
    rcases hh.kids.at_ with e | ⟨g, off, e, hrr⟩
    · exact .inl e
    · exact .inr ⟨g, off, e, range_room hrr hr.g (e4 g off e)⟩
  · obtain ⟨e1, e2, e3, e4, e5⟩ := h.each k d n h1 h2
    exact ⟨e1, e2, e3, e4, fun h5 => ⟨(e5 h5).1.bench hB hr.g, (e5 h5).2⟩⟩
def notTruth (g : Ru) (x : Int) : Bool := (kindOf g.ks x).1 != 1
set_option maxRecDepth 100000 in
theorem noTruth_any {w : World} {B T R mo mg b : Nat} {kv nv : Value} {g : Ru} (h : TmAt w B T R mo mg kv nv g) (hb : w.cell? ⟨b, 0, none⟩ = some (.pointer (some ⟨T, 0, none⟩))) (x : Int) :
    Calls Tryz.prog 17 #[.int .i64 x, .pointer (some ⟨b, 0, none⟩)] w (GivesV (.bool (notTruth g x)) w) := by
  have HS := Lib.hid (Sort_any h x)
  unfold notTruth
  generalize (kindOf g.ks x).1 = s at *
  clear h
  go_enter Tryz.func17, Tryz.ntmps17
  go_wp2_with fail
  refine HS.out.mono ?_
  rintro e w1 ⟨rfl, hb1⟩
  have HB := Lib.hid hb1
  clear hb1
  go_wp2_with fail
  go_ret
  exact GivesV.mk' rfl HB.out
set_option maxRecDepth 100000 in
theorem isFalse_any {w : World} {G cap n b : Nat} {rs : List RV} {vs : List Vl} (ho : OwnE w G cap n (cellsOf rs)) (hl : rs.length = n) (hv : ∀ (k : Nat) (d : RV) (v : Vl), rs[k]? = some d → vs[k]? = some v → d.t = v.1) (hvl : vs.length = n)
    (hb : w.cell? ⟨b, 0, none⟩ = some (.slice (some ⟨G, 0, none⟩) n cap)) {x : Int} (hx : 0 ≤ x ∧ x < (n : Int)) :
    Calls Tryz.prog 20 #[.int .i64 x, .pointer (some ⟨b, 0, none⟩)] w (GivesV (.bool (!isT vs x)) w) := by
  obtain ⟨k, rfl⟩ : ∃ k : Nat, x = (k : Int) := ⟨x.toNat, by omega⟩
  have hk : k < n := by omega
  obtain ⟨d, hd⟩ : ∃ d, rs[k]? = some d := ⟨_, List.getElem?_eq_getElem (by omega)⟩
  have hvv : vs[k]? = some (vat vs (k : Int)) := by
    unfold vat
    rw [List.getD_eq_getElem?_getD, show ((k : Int)).toNat = k by omega, List.getElem?_eq_getElem (by omega)]
    rfl
  have et : isT vs (k : Int) = d.t := (hv k d _ hd hvv).symm
  have e0 : w.cell? ⟨G, k * 4, none⟩ = some (.bool d.t) := ho.cell _ _ (cellsOf_at rs k d hd 0 _ rfl)
  rw [et]
  generalize d.t = t at *
  obtain ⟨hx0, hx1⟩ := hx
  clear ho hl hv hvl hd hvv et
  go_enter Tryz.func20, Tryz.ntmps20
  go_wp2_with fail
  go_ret
  exact GivesV.mk' rfl (Below.refl _ _)
theorem box_stay {w W : World} {B T R mo mg b : Nat} {kv nv : Value} {g : Ru} {v : Value} {ty : TypeId} (h : TmAt w B T R mo mg kv nv g) (hb : w.heap[b]? = some (.cells #[v] ty (0, 0))) (h1 : ty ≠ 86) (h2 : ty ≠ 111) (h3 : 90 ≠ ty) (h4 : 33 ≠ ty)
    (hc : Chg (fun j => j = T ∨ j = R ∨ kv.ownBlock = some j ∨ nv.ownBlock = some j) w W) : W.heap[b]? = some (.cells #[v] ty (0, 0)) := by
  refine (hc.block b (Array.getElem?_eq_some_iff.1 hb).1 ?_).trans hb
  rintro (e | e | e | e)
  · exact tag_ne10 hb h.head h1 e
  · exact tag_ne10 hb h.ru.head h2 e
  · exact own_ne h.ru.row hb h3 e
  · obtain ⟨xs, hx⟩ := h.row
    exact own_ne hx hb h4 e
def TrueIs (W : World) (b m : Nat) (r : Bool) (e : Ending) (W' : World) : Prop := e = .returned (.tuple #[.bool r, .int .i64 0]) ∧ RoomM b m W W'
set_option maxRecDepth 100000 in
set_option maxHeartbeats 16000000 in
theorem True_any {W : World} {b m : Nat} {bools : List Bool} {ba : Option Addr} {bc : Nat} {reals : List Rat} {rq : List RV} {ra : Option Addr} {rc : Nat} {a : Option Addr} {c : Nat} {ts : List HN} {ens : List En} {sa : Option Addr} {asserts : List Int} {sc : Nat}
    (hN : NodesOk W b a ts ens) (hT : Tab W) (hB : Bench W b m false) (hb : BAt W b ba bools) (hr : RAt W b ra reals rq) (hbl : bools.length ≤ 1000) (hrl : reals.length ≤ 1000)
    (hrr : ∀ W', Below W.heap.size W W' → ∀ d ∈ rq, Calls Tryz.prog 37 #[.agg #[.bool d.s, .slice d.z1 d.m1 d.k1, .slice d.z2 d.m2 d.k2]] W' (GivesV (.bool true) W'))
    (hrun : runs (startRu bools.length reals.length) (ts.map HN.nd) = true) (hfit : ∀ (k : Nat) (n : En), ens[k]? = some n → Fit bools.length reals.length k n ∧ (1 ≤ n.op ∧ n.op ≤ 19) ∧ NodeSm m (values bools reals [] (ens.take k)) n)
    (hs : ∀ v ∈ values bools reals [] ens, szQ v.2 ≤ 48) (hsr : ∀ q ∈ reals, szQ q ≤ 48)
    (hA : KAt W sa asserts sc) (hAb : ∀ g off, sa = some ⟨g, off, none⟩ → g ≠ b) (hAin : ∀ x ∈ asserts, 0 ≤ x ∧ x < (ts.length : Int)) (hAs : asserts.any (notTruth (after (startRu bools.length reals.length) (ts.map HN.nd))) = false) :
    Calls Tryz.prog 8 #[.pointer (some ⟨b, 0, none⟩), .agg #[.slice none 0 0, .slice none 0 0, .slice a ts.length c, .slice sa asserts.length sc, .bool false, .bool false], .slice ba bools.length bc, .slice ra reals.length rc] W (TrueIs W b m (!asserts.any (fun x => !isT (values bools reals [] ens) x))) := by
  obtain ⟨W2, hW2⟩ : ∃ W2, W2 = W.alloc (.cells #[.slice none 0 0, .slice none 0 0, .slice a ts.length c, .slice sa asserts.length sc, .bool false, .bool false] 43) := ⟨_, rfl⟩
  have hb2 : Below W.heap.size W W2 := by rw [hW2]; exact (Below.refl _ _).alloc (Nat.le_refl _) _
  have hbx : W2.heap[W.heap.size]? = some (.cells #[.slice none 0 0, .slice none 0 0, .slice a ts.length c, .slice sa asserts.length sc, .bool false, .bool false] 43 (0, 0)) := by rw [hW2]; exact heap_alloc_new W _
  have HAL := Lib.hid (All_any (c := c) (bc := bc) (rc := rc) (hN.kept hb2) (hT.kept hb2) (hB.kept hb2) (hb.kept hb2) (hr.kept hb2) hbl hrl (fun W' hW' => hrr W' (hb2.trans (hW'.mono hb2.size))) hrun hfit hs hsr)
  have H0 := Lib.hid (And.intro (hN.kept hb2) (And.intro (hB.kept hb2) (And.intro (hT.kept hb2) (And.intro (hA.kept hb2) (And.intro hAb (And.intro hAin (And.intro hAs (And.intro hrun (And.intro hb2 (And.intro hbx (RoomM.of_below hb2 hB hT)))))))))))
  have hbb : W.heap.size ≠ b := by
    have h1 := hB
    unfold Bench at h1
    have := (Array.getElem?_eq_some_iff.1 h1).1
    omega
  have HBB := Lib.hid hbb
  have hvlen : (values bools reals [] ens).length = ts.length := by rw [values_len, hN.len]; simp
  have HVL := Lib.hid hvlen
  have hfw := hN.few
  obtain ⟨n, hn⟩ : ∃ n, ts.length = n := ⟨_, rfl⟩
  have HLN := Lib.hid hn
  obtain ⟨na, hna⟩ : ∃ na, asserts.length = na := ⟨_, rfl⟩
  have HNA := Lib.hid hna
  obtain ⟨nb, hnb⟩ : ∃ nb, bools.length = nb := ⟨_, rfl⟩
  obtain ⟨nr, hnr⟩ : ∃ nr, reals.length = nr := ⟨_, rfl⟩
  have HNB := Lib.hid (And.intro hnb hnr)
  rw [hn] at HAL hW2 hfw ⊢
  rw [hna] at hW2 ⊢
  rw [hnb, hnr] at HAL ⊢
  rw [hnb] at hbl
  rw [hnr] at hrl
  clear hN hT hB hb hr hrr hrun hfit hs hsr hA hAb hAin hAs hb2 hbx hbb hvlen hn hna hnb hnr
  go_enter Tryz.func8, Tryz.ntmps8
  go_wp2_with fail
  rw [← hW2]
  clear hW2
  refine HAL.out.mono ?_
  rintro e w3 ⟨G, cap, rs, rfl, R3, V3⟩
  have hbx3 := block_room H0.out.2.2.2.2.2.2.2.2.2.1 R3.out HBB.out
  rw [HLN.out, HNA.out] at hbx3
  have y2 : w3.cell? ⟨W.heap.size, 2, none⟩ = some (.slice a n c) := by simp [World.cell?, hbx3]
  have y3 : w3.cell? ⟨W.heap.size, 3, none⟩ = some (.slice sa na sc) := by simp [World.cell?, hbx3]
  have HY := Lib.hid (And.intro y2 y3)
  obtain ⟨w4, hw4⟩ : ∃ w4, w4 = w3.alloc (.cells #[.slice (some ⟨G, 0, none⟩) n cap] 48) := ⟨_, rfl⟩
  have hb34 : Below w3.heap.size w3 w4 := by rw [hw4]; exact (Below.refl _ _).alloc (Nat.le_refl _) _
  have hQ4 : w4.heap[w3.heap.size]? = some (.cells #[.slice (some ⟨G, 0, none⟩) n cap] 48 (0, 0)) := by rw [hw4]; exact heap_alloc_new w3 _
  have hr4 := (H0.out.2.2.2.2.2.2.2.2.2.2.trans R3.out).kept hb34
  have hN4 := (H0.out.1.room H0.out.2.1 R3.out).kept hb34
  have hA4 := (KAt.room H0.out.2.2.2.1 R3.out H0.out.2.2.2.2.1).kept hb34
  have hV4 : OwnE w4 G cap n (cellsOf rs) ∧ rs.length = n ∧ ∀ (k : Nat) (d : RV) (v : Vl), rs[k]? = some d → (values bools reals [] ens)[k]? = some v → d.t = v.1 := ⟨V3.out.2.2.1.kept hb34, V3.out.2.2.2.1, fun k d v h1 h2 => (V3.out.2.2.2.2 k d v h1 h2).t⟩
  have HNEW := Lib.hid (New_any w4 (nb : Int) (nr : Int) (by omega) (by omega))
  have H4 := Lib.hid (And.intro hr4 (And.intro hN4 (And.intro hA4 (And.intro hV4 (And.intro hQ4 hb34)))))
  have HW4 := Lib.hid hw4
  clear hbx3 hb34 hQ4 hr4 hN4 hA4 hV4 HAL R3 V3 hw4
  go_wp2_with fail
  rw [show w3.alloc (Obj.cells #[.slice (some ⟨G, 0, none⟩) n cap] 48) = w4 from HW4.out.symm]
  clear HW4
  refine HNEW.out.mono ?_
  rintro e w5 ⟨T, R, mo, mg, rfl, h5, hb45⟩
  obtain ⟨B, hBe⟩ : ∃ B, w4.heap.size = B := ⟨_, rfl⟩
  rw [hBe] at h5 hb45
  obtain ⟨g0, hg0⟩ : ∃ g0, startRu (nb : Int) (nr : Int) = g0 := ⟨_, rfl⟩
  rw [hg0] at h5
  have hg0' : startRu (bools.length : Int) (reals.length : Int) = g0 := by rw [HNB.out.1, HNB.out.2]; exact hg0
  have hks0 : g0.ks = [] := by rw [← hg0]; rfl
  obtain ⟨w6, hw6⟩ : ∃ w6, w6 = w5.alloc (.cells #[.pointer (some ⟨T, 0, none⟩)] 60) := ⟨_, rfl⟩
  have hb56 : Below w5.heap.size w5 w6 := by rw [hw6]; exact (Below.refl _ _).alloc (Nat.le_refl _) _
  have hP6 : w6.heap[w5.heap.size]? = some (.cells #[.pointer (some ⟨T, 0, none⟩)] 60 (0, 0)) := by rw [hw6]; exact heap_alloc_new w5 _
  have hb46 : Below B w4 w6 := hb45.trans (hb56.mono (by rw [← hBe]; exact hb45.size))
  obtain ⟨P12, hP12⟩ : ∃ P12, w5.heap.size = P12 := ⟨_, rfl⟩
  rw [hP12] at hP6
  have H6 := Lib.hid (And.intro (h5.kept hb56) (And.intro hb46 hP6))
  have HBE := Lib.hid (And.intro hBe (And.intro hg0' hks0))
  have hrun := H0.out.2.2.2.2.2.2.2.1
  rw [hg0'] at hrun
  have HRUN := Lib.hid hrun
  have y2' : w6.cell? ⟨W.heap.size, 2, none⟩ = some (.slice a n c) := by
    have h4 := cell_kept HY.out.1 H4.out.2.2.2.2.2
    rw [← hBe] at hb46
    exact cell_kept h4 hb46
  rw [hw6] at y2'
  have HW6 := Lib.hid hw6
  have HP12 := Lib.hid hP12
  clear h5 hb45 hg0 hg0' hks0 hb56 hP6 hb46 hrun y2 y3 HNEW hw6 hBe hP12
  go_wp2_with fail
  rw [show w5.alloc (Obj.cells #[.pointer (some ⟨T, 0, none⟩)] 60) = w6 from HW6.out.symm]
  rw [HP12.out]
  clear y2' HW6
  go_loopw [37] (fun (iv : Value) (wr : World) => ∃ k : Nat, k ≤ n ∧ iv = .int .i64 (k : Int) ∧ Hid (∃ kv nv, TmAt wr B T R mo mg kv nv (after g0 ((ts.map HN.nd).take k)) ∧ Below B w4 wr ∧ wr.heap[P12]? = some (.cells #[.pointer (some ⟨T, 0, none⟩)] 60 (0, 0)))) (fun iv _ => n - (intOf iv).toNat)
  case atStart => exact ⟨0, Nat.zero_le _, rfl, Lib.hid ⟨_, _, H6.out⟩⟩
  case round =>
    obtain ⟨k, hkn, rfl, HI⟩ := hrel
    clear H6
    have hBw4 : w4.heap.size = B := HBE.out.1
    by_cases hlt : k < n
    · obtain ⟨kv, nv, htm, hbw, hpx⟩ := HI.out
      obtain ⟨d, hd⟩ : ∃ d, ts[k]? = some d := ⟨_, List.getElem?_eq_getElem (by rw [HLN.out]; exact hlt)⟩
      have hN4 := H4.out.2.1
      have hm := List.mem_of_getElem? hd
      obtain ⟨g, off, rfl, hrW⟩ : ∃ g off, a = some ⟨g, off, none⟩ ∧ w4.rangeAt g (off + k * 6) d.cells := by
        rcases hN4.nodes.mem with e | ⟨g, off, e, h⟩
        · subst e; simp at hd
        · exact ⟨g, off, e, h k d hd⟩
      have hbw' : Below w4.heap.size w4 wr := by rw [hBw4]; exact hbw
      have hrg := rangeAt_kept hrW hbw' (rangeAt_lt hrW (by simp [HN.cells]))
      have hdn : (ts.map HN.nd)[k]? = some d.nd := by rw [List.getElem?_map, hd]; rfl
      have hcode := runs_at HRUN.out hdn
      have hlen : (after g0 ((ts.map HN.nd).take k)).ks.length = k := by
        rw [after_len (runs_take k HRUN.out), HBE.out.2.2, List.length_take, List.length_map, HLN.out]
        simp
        omega
      have hafter : after g0 ((ts.map HN.nd).take (k + 1)) = next (after g0 ((ts.map HN.nd).take k)) d.nd := after_take hdn
      obtain ⟨g1, hg1⟩ : ∃ g1, after g0 ((ts.map HN.nd).take k) = g1 := ⟨_, rfl⟩
      rw [hg1] at htm hcode hlen hafter
      have hal := (Below.refl wr.heap.size wr).alloc (Nat.le_refl _) (.cells d.cells.toArray 33)
      have htm2 := htm.kept hal
      have hBwr : B ≤ wr.heap.size := by rw [← hBw4]; exact hbw.size
      have hbw2 : Below w4.heap.size w4 (wr.alloc (.cells d.cells.toArray 33)) := hbw'.trans (hal.mono hbw'.size)
      have HAD := Lib.hid ((TAdd_any htm2 (n := d.nd) (ka := d.ka) (kc := d.kc) (s := d.s) (a1 := d.a1) (l1 := d.xs.length) (c1 := d.c1) (a2 := d.a2) (l2 := d.ds.length) (c2 := d.c2) (fun W' hW' => ((hN4.nodes.each d hm).kept (hbw2.trans (hW'.below (by
        obtain ⟨xs, hx⟩ := htm2.row
        rintro j (e | e | e | e)
        · have := htm2.low; omega
        · have := htm2.ru.low.1; omega
        · have := (own_tag htm2.ru.row e).1; omega
        · have := (own_tag hx e).1; omega) hbw2.size))).node (hN4.great d hm) ((H4.out.1.tab).kept (hbw2.trans (hW'.below (by
        obtain ⟨xs, hx⟩ := htm2.row
        rintro j (e | e | e | e)
        · have := htm2.low; omega
        · have := htm2.ru.low.1; omega
        · have := (own_tag htm2.ru.row e).1; omega
        · have := (own_tag hx e).1; omega) hbw2.size)))) (Nat.le_trans hBwr hal.size)).mono (fun e w' h => h.says hcode rfl (x := (k : Int)) (y := 0) (by rw [if_pos rfl, hlen]) rfl))
      have HA := Lib.hid (And.intro htm2 (And.intro hbw2 (And.intro hafter (block_kept hpx hal))))
      have hpc : wr.cell? ⟨P12, 0, none⟩ = some (.pointer (some ⟨T, 0, none⟩)) := by simp [World.cell?, hpx]
      have hpc2 : (wr.alloc (.cells d.cells.toArray 33)).cell? ⟨P12, 0, none⟩ = some (.pointer (some ⟨T, 0, none⟩)) := cell_kept hpc hal
      have HBOX := rangeAt_new wr d.cells 33
      have hki : (k : Int) < (n : Int) := by omega
      have hiw : wrap64 ((k : Int) + 1) = (k : Int) + 1 := IntWalk.wrap64_in _ (by omega)
      clear htm hbw hd hN4 hm hrW hbw' hdn hcode hlen hafter hg1 hal htm2 hBwr hbw2 hpx HI
      go_wp2_with (first | (refine wpList_val (.agg d.cells.toArray) (run_load_op 33 (.tmp 39) (by with_reducible rfl) g (off + k * 6) (by rfl) d.cells _ hrg Tryz.underlying33 rfl (by rw [size_node]; rfl)) (by rfl) ?_) | (with_reducible refine wpList_alloc_agg rfl 33 rfl zNode zero_node ?_) | (refine wpList_store_new rfl 33 (.tmp 14) (.tmp 40) (by with_reducible rfl) wr zNode d.cells.toArray (by rfl) (by rfl) (by rfl) (by rw [size_node]; rfl) (by rfl) (hn_one d) ?_) | (refine wpList_val (.agg d.cells.toArray) (run_load_op 33 (.tmp 14) (by with_reducible rfl) wr.heap.size 0 (by rfl) d.cells _ HBOX Tryz.underlying33 rfl (by rw [size_node]; rfl)) (by rfl) ?_))
      refine HAD.out.mono ?_
      rintro e w7 ⟨rfl, kv7, nv7, h7, hc7⟩
      have hb7 : Below B w4 w7 := by
        have h2 := HA.out.2.1
        rw [hBw4] at h2
        exact h2.trans (hc7.below (by
          obtain ⟨xs, hx⟩ := HA.out.1.row
          rintro j (e | e | e | e)
          · have := HA.out.1.low; omega
          · have := HA.out.1.ru.low.1; omega
          · have := (own_tag HA.out.1.ru.row e).1; omega
          · have := (own_tag hx e).1; omega) (by rw [← hBw4]; exact HA.out.2.1.size))
      have hp7 := box_stay HA.out.1 HA.out.2.2.2 (by decide) (by decide) (by decide) (by decide) hc7
      have HNX : Hid (∃ kv nv, TmAt w7 B T R mo mg kv nv (after g0 ((ts.map HN.nd).take (k + 1))) ∧ Below B w4 w7 ∧ w7.heap[P12]? = some (.cells #[.pointer (some ⟨T, 0, none⟩)] 60 (0, 0))) := Lib.hid ⟨kv7, nv7, by rw [HA.out.2.2.1]; exact h7, hb7, hp7⟩
      clear h7 hc7 hb7 hp7 HAD HBOX hrg hpc hpc2
      go_wp2_with fail
      go_roundw
      case rel => exact ⟨k + 1, by omega, by go_num, HNX⟩
      case measure => simp [intOf]; omega
    · obtain rfl : k = n := by omega
      obtain ⟨kv, nv, htm, hbw, hpx⟩ := HI.out
      have hfull : (ts.map HN.nd).take k = ts.map HN.nd := List.take_of_length_le (by rw [List.length_map, HLN.out]; exact Nat.le_refl _)
      rw [hfull] at htm
      have hbw' : Below w4.heap.size w4 wr := by rw [hBw4]; exact hbw
      have hpc : wr.cell? ⟨P12, 0, none⟩ = some (.pointer (some ⟨T, 0, none⟩)) := by simp [World.cell?, hpx]
      have hq : wr.cell? ⟨w3.heap.size, 0, none⟩ = some (.slice (some ⟨G, 0, none⟩) k cap) := by
        have := block_kept H4.out.2.2.2.2.1 hbw'
        simp [World.cell?, this]
      have hA := H4.out.2.2.1.kept hbw'
      have HC1 := contains_noTruth (b := P12) (p := notTruth (after g0 (ts.map HN.nd))) hA (fun W' hW' x _ => noTruth_any (htm.kept hW') (cell_kept hpc hW') x)
      have hAs := H0.out.2.2.2.2.2.2.1
      rw [HBE.out.2.1] at hAs
      rw [hAs, HNA.out] at HC1
      have HCC1 := Lib.hid HC1
      have HC2 : Hid (∀ W5, Below wr.heap.size wr W5 → Calls Tryz.prog 19 #[.slice sa na sc, .func (.func 20) #[] #[.pointer (some ⟨w3.heap.size, 0, none⟩)]] W5 (GivesV (.bool (asserts.any (fun x => !isT (values bools reals [] ens) x))) W5)) := Lib.hid fun W5 h5 => by
        have := contains_isFalse (b := w3.heap.size) (p := fun x => !isT (values bools reals [] ens) x) (hA.kept h5) (fun W' hW' x hx => isFalse_any ((H4.out.2.2.2.1.1.kept hbw').kept (h5.trans (hW'.mono h5.size))) H4.out.2.2.2.1.2.1 H4.out.2.2.2.1.2.2 (HVL.out.trans HLN.out) (cell_kept hq (h5.trans (hW'.mono h5.size))) (by rw [← HLN.out]; exact H0.out.2.2.2.2.2.1 x hx))
        rw [HNA.out] at this
        exact this
      have z3 : wr.cell? ⟨W.heap.size, 3, none⟩ = some (.slice sa na sc) := cell_kept (cell_kept HY.out.2 H4.out.2.2.2.2.2) hbw'
      have HZ3 := Lib.hid z3
      have HRM := Lib.hid (H4.out.1.kept hbw')
      obtain ⟨res, hres⟩ : ∃ res, asserts.any (fun x => !isT (values bools reals [] ens) x) = res := ⟨_, rfl⟩
      rw [hres] at HC2
      have HRES := Lib.hid hres
      clear hres
      clear htm hbw hpx hfull hbw' hpc hq hA HC1 hAs HI
      go_wp2_with fail
      refine HCC1.out.mono ?_
      rintro e w8 ⟨rfl, hb8⟩
      have z3' : w8.cell? ⟨W.heap.size, 3, none⟩ = some (.slice sa na sc) := cell_kept HZ3.out hb8
      have HC3 := Lib.hid (HC2.out _ hb8)
      have HR8 := Lib.hid (HRM.out.kept hb8)
      clear hb8 z3
      go_wp2_with fail
      refine HC3.out.mono ?_
      rintro e w9 ⟨rfl, hb9⟩
      have HR9 := Lib.hid (HR8.out.kept hb9)
      clear hb9
      go_wp2_with fail
      refine bodyPost_ret (v := .tuple #[.bool (!res), .int .i64 0]) ?_ rfl ⟨by rw [HRES.out], HR9.out⟩
      simp [results, Tryz.results8, asAddr, Act.put]
end Go.Proofs.YthnklohpmcebkaaGreatDoor
