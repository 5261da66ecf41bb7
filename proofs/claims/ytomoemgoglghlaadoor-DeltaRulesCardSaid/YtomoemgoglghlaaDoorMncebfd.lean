/- By program out of: RefInt, RatOfP, DelOf, DelRulesB. -/
import Derived.Test.YtomoemgoglghlaaDoorMdoblgd
import Derived.ArgAppend
import Derived.Test.YtomoemgoglghlaaDoorMmdhjlk
/-
  append onto a slice of one's own, told whether the block is new; the document's Int.
-/
set_option linter.unusedVariables false
set_option linter.unusedSimpArgs false
namespace Go.Proofs.YtomoemgoglghlaaDoor
open Go.RowKit Rep

theorem set_take {l : List Value} {n : Nat} {v : Value} (h : n < l.length) : (l.set n v).take (n + 1) = l.take n ++ [v] := by
  apply List.ext_getElem?
  intro i
  rw [List.getElem?_take, List.getElem?_set]
  by_cases h1 : i < n
  · rw [List.getElem?_append_left (by rw [List.length_take]; omega), List.getElem?_take, if_pos (by omega), if_neg (by omega), if_pos h1]
  · by_cases h2 : i = n
    · subst h2
      rw [List.getElem?_append_right (by rw [List.length_take]; omega), List.length_take, Nat.min_eq_left (by omega)]
      simp [h]
    · rw [if_neg (by omega), List.getElem?_eq_none (by rw [List.length_append, List.length_take]; simp; omega)]
theorem Row.push {E : TypeId} {w : World} {g cap : Nat} {vs : List Value} (h : Row E w g cap vs) (hl : vs.length + 1 ≤ cap) (v : Value) : Row E (w.setCell ⟨g, vs.length, none⟩ v) g cap (vs ++ [v]) := by
  obtain ⟨cur, hh, hs, hle, ht⟩ := h
  refine ⟨cur.setIfInBounds vs.length v, ?_, by simp [hs], by simp; omega, ?_⟩
  · simp only [World.setCell, Array.getElem?_modify]
    simp [hh]
  · have hlt : vs.length < cur.toList.length := by simp only [Array.length_toList]; omega
    rw [Array.toList_setIfInBounds, List.length_append, List.length_singleton, set_take hlt, ht]
theorem wpList_append_new {P : Program} (w : World) {ops : Array Oper} {rest : List Oper} {o : Oper} {a : Act} {Q : Exit → Act → World → Prop} (hgd : o.guard = none) (s x : Operand) (t : TypeId)
    (ho : o.op = .call { callee := .builtin .append, args := #[s, x], argTypes := #[t, t] }) (e : TypeId) (z : Value) (bts : Nat) (ht : P.underlying t = some (.slice e))
    (hi : (P.info? e).map (fun i => (i.zero, i.size, i.bytes)) = some (some z, 1, bts)) (hz1 : z.cells.size = 1)
    (f : Nat → Value) (B : Nat) (aa : Option Addr) (n cap : Nat) (xs : List Nat) (hs : a.eval s = .slice aa n cap) (hown : OwnR e f B w aa cap xs) (hn : xs.length = n)
    (ax : Addr) (c d : Nat) (hx : a.eval x = .slice (some ax) 1 c) (hr : w.cell? ax = some (f d)) (h1 : (f d).oneCell' = true)
    (hmax : n + 1 ≤ maxLen) (hb : (n + 1) * bts ≤ 140737488355328)
    (h : ∀ g' cap' w', Row e w' g' cap' ((xs ++ [d]).map f) → cap' ≤ maxLen → w.grownBy w' (blk aa) → (blk aa = some g' ∨ w.heap.size ≤ g') → wpList P ops Q rest (a.put o.dst (.slice (some ⟨g', 0, none⟩) (n + 1) cap')) w') : wpList P ops Q (o :: rest) a w := by
  obtain ⟨i, h2, h3, h4, h5⟩ := info_parts hi
  have hcell : ∀ j u, [f d][j]? = some u → w.cell? (ax.add j) = some u := by
    intro j u hu
    rcases j with _ | j
    · simp only [List.getElem?_cons_zero, Option.some.injEq] at hu
      subst hu
      simpa [Addr.add] using hr
    · simp at hu
  have hone : ∀ u ∈ [f d], u.oneCell' = true := by simpa using h1
  have fin : ∀ v' w', w'.ownsRow w.heap.size e 1 v' (n + 1) (xs.map f ++ [f d]) → w.grownBy w' none → wpList P ops Q rest (a.put o.dst v') w' := by
    intro v' w' a1 a2
    obtain ⟨hl, ⟨e1, e2⟩ | ⟨g', cap', cur, rfl, hb', hh, hnc, hcm, hcs, htake⟩⟩ := a1
    · omega
    · refine h g' cap' w' ⟨cur, hh, by omega, by simp; omega, ?_⟩ hcm ⟨a2.os, a2.tape, a2.output, a2.size, fun k hk _ => a2.block k hk (by simp)⟩ (.inr hb')
      rw [List.map_append, List.length_append, List.length_map, hn]
      rw [Nat.mul_one] at htake
      exact htake
  obtain ⟨hc, ⟨rfl, rfl, rfl⟩ | ⟨g, rfl, hg, hrow⟩⟩ := hown
  · obtain rfl : n = 0 := by simpa using hn.symm
    exact wpList_append_grows w hgd s x t ho e i z 1 bts ht h2 h3 h4 h5 hz1 (by decide) none 0 0 [] hs (fun _ => ⟨rfl, rfl⟩) rfl (fun b hb => by cases hb) ax 1 c [f d] hx rfl hcell hone (by omega) hmax hb fin
  · have hlen : (xs.map f).length = n := by rw [List.length_map, hn]
    refine wpList_append_arg w hgd s x t ho e i z 1 bts ht h2 h3 h4 h5 hz1 (by decide) g 0 n cap (xs.map f) hs (by rw [hlen, Nat.mul_one]) (fun j u hu => by rw [Nat.zero_add]; exact hrow.cell j u hu) ax 1 c [f d] hx rfl hcell hone ?_ hmax hb ?_ (fun _ => fin)
    · intro hroom j hj
      obtain rfl : j = 0 := by simpa using hj
      obtain ⟨cur, hh, hcs, _, _⟩ := hrow
      refine ⟨?_, ?_⟩
      · simp only [World.cell?, hh, Nat.zero_add, Nat.mul_one, Nat.add_zero]
        rw [Array.getElem?_eq_getElem (by omega)]
        rfl
      · simp [World.frozen?, hh]
    · intro hroom
      have hp := hrow.push (by rw [hlen]; omega) (f d)
      rw [hlen] at hp
      have he : w.setCells g (0 + n * 1) [f d] = w.setCell ⟨g, n, none⟩ (f d) := by rw [Nat.zero_add, Nat.mul_one]; rfl
      rw [he]
      exact h g cap _ (by rw [List.map_append]; exact hp) hc (grownBy_set (grown_refl w _)) (.inl rfl)

/-- A small number. -/
def qI (n : Int) : Rat := mkQ (decide (n < 0)) n.natAbs 1
theorem qI_parts (n : Int) : ngQ (qI n) = decide (n < 0) ∧ mgQ (qI n) = n.natAbs ∧ (qI n).den = 1 := by
  obtain ⟨a, b⟩ := mkQ_cop (decide (n < 0)) (n := n.natAbs) (d := 1) (by omega) (Nat.gcd_one_right _)
  refine ⟨?_, a, b⟩
  unfold qI
  rw [mkQ_ng _ _ (by omega)]
  split
  · rename_i h; rw [decide_eq_false (by omega)]
  · rfl
/-- Some of the digits are there. -/
structure IntAt (w : World) (N : Nat) (neg : Bool) (k : Nat) (a : Option Addr) (c : Nat) (O : List Nat) (wr : World) : Prop where
  at' : wr.heap[w.heap.size + 1 + 1 + 1]? = some (.cells #[.bool neg, .slice a O.length c, .slice (some ⟨w.heap.size + 1 + 1, 0, none⟩) 1 1] 77 (0, 0))
  dig : D N = O ++ D k
  own : OwnR 3 i64v (w.heap.size + 1) wr a c O
  ne : blk a ≠ some (w.heap.size + 1 + 1 + 1)
  one : DAt wr (some ⟨w.heap.size + 1 + 1, 0, none⟩) 1 1
  ne1 : blk a ≠ some (w.heap.size + 1 + 1)
  below : Below w.heap.size w wr
  res : BlankD wr w.heap.size
theorem IntAt.start (w : World) (N : Nat) (neg : Bool) : IntAt w N neg N (some ⟨w.heap.size + 1, 0, none⟩) 0 []
    ((((w.alloc (.cells #[.bool false, .slice none 0 0, .slice none 0 0] 77)).alloc (.cells #[] 3)).alloc (.cells #[.int .i64 1] 3)).alloc (.cells #[.bool neg, .slice (some ⟨w.heap.size + 1, 0, none⟩) 0 0, .slice (some ⟨w.heap.size + 1 + 1, 0, none⟩) 1 1] 77)) := by
  refine ⟨?_, rfl, ⟨by simp [maxLen], .inr ⟨_, rfl, Nat.le_refl _, ?_⟩⟩, by simp [blk], ⟨?_, by decide, by simp [maxLen]⟩, by simp [blk], ?_, ?_⟩
  · have := heap_alloc_new (((w.alloc (.cells #[.bool false, .slice none 0 0, .slice none 0 0] 77)).alloc (.cells #[] 3)).alloc (.cells #[.int .i64 1] 3)) (.cells #[.bool neg, .slice (some ⟨w.heap.size + 1, 0, none⟩) 0 0, .slice (some ⟨w.heap.size + 1 + 1, 0, none⟩) 1 1] 77)
    simpa using this
  · have := ((Row.new (E := 3) (w.alloc (.cells #[.bool false, .slice none 0 0, .slice none 0 0] 77)) #[]).alloc (.cells #[.int .i64 1] 3)).alloc (.cells #[.bool neg, .slice (some ⟨w.heap.size + 1, 0, none⟩) 0 0, .slice (some ⟨w.heap.size + 1 + 1, 0, none⟩) 1 1] 77)
    simpa using this
  · have h := (Row.new (E := 3) ((w.alloc (.cells #[.bool false, .slice none 0 0, .slice none 0 0] 77)).alloc (.cells #[] 3)) #[.int .i64 1]).alloc (.cells #[.bool neg, .slice (some ⟨w.heap.size + 1, 0, none⟩) 0 0, .slice (some ⟨w.heap.size + 1 + 1, 0, none⟩) 1 1] 77)
    simpa [i64v, D_one] using h.reads0
  · exact ((((Below.refl _ _).alloc (Nat.le_refl _) _).alloc (by simp) _).alloc (by simp; omega) _).alloc (by simp; omega) _
  · unfold BlankD
    rw [Below.heap_alloc _ _ _ (by simp; omega), Below.heap_alloc _ _ _ (by simp; omega), Below.heap_alloc _ _ _ (by simp)]
    exact heap_alloc_new w _
theorem IntAt.next {w wr w' : World} {N k d k' c g' cap' : Nat} {neg : Bool} {a : Option Addr} {O : List Nat} {ob : Obj} (h : IntAt w N neg k a c O wr) (hk : 0 < k) (hd : d = k % 10) (hk' : k' = k / 10)
    (hrow : Row 3 w' g' cap' ((O ++ [d]).map i64v)) (hcap : cap' ≤ maxLen) (hgrow : (wr.alloc ob).grownBy w' (blk a)) (hg' : blk a = some g' ∨ (wr.alloc ob).heap.size ≤ g') :
    IntAt w N neg k' (some ⟨g', 0, none⟩) cap' (O ++ [d]) (w'.setCell ⟨w.heap.size + 1 + 1 + 1, 1, none⟩ (.slice (some ⟨g', 0, none⟩) (O.length + 1) cap')) ∧
    w'.cell? ⟨w.heap.size + 1 + 1 + 1, 1, none⟩ = some (.slice a O.length c) ∧ w'.frozen? ⟨w.heap.size + 1 + 1 + 1, 1, none⟩ = false := by
  have hlt : w.heap.size + 1 + 1 + 1 < wr.heap.size := (Array.getElem?_eq_some_iff.1 h.at').1
  have hba : Below wr.heap.size wr (wr.alloc ob) := (Below.refl _ _).alloc (Nat.le_refl _) _
  have h1 : w'.heap[w.heap.size + 1 + 1 + 1]? = some (.cells #[.bool neg, .slice a O.length c, .slice (some ⟨w.heap.size + 1 + 1, 0, none⟩) 1 1] 77 (0, 0)) :=
    (hgrow.block _ (by simp; omega) (Ne.symm h.ne)).trans ((hba.block _ hlt).trans h.at')
  have g1 : g' ≠ w.heap.size + 1 + 1 + 1 := by
    rcases hg' with e | e
    · intro h2; rw [h2] at e; exact h.ne e
    · simp at e; omega
  have g2 : g' ≠ w.heap.size + 1 + 1 := by
    rcases hg' with e | e
    · intro h2; rw [h2] at e; exact h.ne1 e
    · simp at e; omega
  have g3 : w.heap.size + 1 ≤ g' := by
    rcases hg' with e | e
    · exact h.own.blk_ge e
    · simp at e; omega
  have hs := grownBy_set (grown_refl w' (some (w.heap.size + 1 + 1 + 1))) (i := 1) (u := .slice (some ⟨g', 0, none⟩) (O.length + 1) cap')
  have hbl : blk a ≠ some w.heap.size := fun e => by have := h.own.blk_ge e; omega
  refine ⟨⟨?_, ?_, ⟨hcap, .inr ⟨g', rfl, g3, hrow.other _ _ (by simpa using g1)⟩⟩, by simpa [blk] using g1, ?_, by simpa [blk] using g2, ?_, ?_⟩, ?_, ?_⟩
  · simp [World.setCell, Array.getElem?_modify, h1]
  · rw [h.dig, D_cons hk, hd, hk', List.append_assoc]; rfl
  · refine ⟨?_, h.one.2⟩
    have r1 := (h.one.1.kept hba).grown hgrow (.inr fun g off e => by cases e; exact Ne.symm h.ne1)
    exact r1.grown hs (.inr fun g off e => by cases e; simp)
  · exact ((h.below.trans (hba.mono h.below.size)).grown hgrow (by simp; have := h.below.size; omega) (fun k hk => by have := h.own.blk_ge hk; omega)).setCell (by simp; omega) _
  · have r := h.res
    unfold BlankD at r ⊢
    rw [Below.heap_setCell _ _ _ _ (by simp; omega)]
    exact (hgrow.block _ (by simp; omega) (Ne.symm hbl)).trans ((hba.block _ (by omega)).trans r)
  · simp [World.cell?, h1]
  · simp [World.frozen?, h1]
theorem IntAt.ends {w wr : World} {N c : Nat} {neg : Bool} {a : Option Addr} {O : List Nat} (h : IntAt w N neg 0 a c O wr) :
    O.length = (D N).length ∧ GivesDR neg N 1 w (.returned (ratV neg (.slice a O.length c) (.slice (some ⟨w.heap.size + 1 + 1, 0, none⟩) 1 1))) (set3 wr w.heap.size neg (.slice a O.length c) (.slice (some ⟨w.heap.size + 1 + 1, 0, none⟩) 1 1)) := by
  have e : D N = O := by rw [h.dig, D_zero, List.append_nil]
  have hle := h.own.le
  have hat : DAt wr a c N := ⟨by rw [e]; exact h.own.reads, by rw [e]; exact hle, h.own.1⟩
  refine ⟨by rw [e], a, c, _, 1, by rw [e, D_one]; rfl, hat.set3 h.res _ _ _, h.one.set3 h.res _ _ _, set3_below h.below (Nat.le_refl _)⟩

set_option maxRecDepth 100000 in
set_option maxHeartbeats 4000000 in
theorem IntD_any (n : Int) (w : World) (h1 : -4611686018427387904 < n) (h2 : n ≤ 9223372036854775807) : Calls Tryd.prog 71 #[.int .i64 n] w (GivesDQ (qI n) w) := by
  obtain ⟨N, hN⟩ : ∃ N : Nat, N = n.natAbs := ⟨_, rfl⟩
  have HQ : Hid (∀ e w', GivesDR (decide (n < 0)) N 1 w e w' → GivesDQ (qI n) w e w') := Lib.hid fun e w' hg => by
    obtain ⟨a, b, c⟩ := qI_parts n
    exact hg.q a (by rw [b, hN]) c
  have HS := Lib.hid (IntAt.start w N (decide (n < 0)))
  have hNb : N ≤ 9223372036854775807 := by omega
  rcases Int.lt_or_le n 0 with hneg | hneg
  · have hd : decide (n < 0) = true := decide_eq_true hneg
    rw [hd] at HS HQ
    have hw : -n = (N : Int) := by omega
    clear hN
    go_enter Tryd.func71, Tryd.ntmps71
    go_wp2_with fail
    go_loopw [0] (fun v wr => ∃ (k : Nat) (a : Option Addr) (c : Nat) (O : List Nat), v = .int .i64 k ∧ k ≤ N ∧ IntAt w N true k a c O wr) (fun v _ => (intOf v).toNat)
    case atStart => exact ⟨N, _, 0, [], rfl, Nat.le_refl _, HS.out⟩
    case round =>
      obtain ⟨k, a, c, O, rfl, hkN, hin⟩ := hrel
      clear HS
      rcases Nat.eq_zero_or_pos k with h0 | h0
      · subst h0
        obtain ⟨m0, m1, m2, _⟩ := cells3 hin.at'
        obtain ⟨r0, r1, r2, q0, q1, q2⟩ := hin.res.cells
        have HE := Lib.hid (HQ.out _ _ hin.ends.2)
        clear hin HQ
        go_wp2_with fail
        exact bodyPost_ret (v := ratV true (.slice a O.length c) (.slice (some ⟨w.heap.size + 1 + 1, 0, none⟩) 1 1)) (by simp [results, Tryd.results71, go_sem, ratV, r0, r1, r2]) rfl HE.out
      · have h0i : (0 : Int) < (k : Int) := by omega
        have h0d : decide ((0 : Int) < (k : Int)) = true := decide_eq_true h0i
        have h0e : decide (0 < k) = true := decide_eq_true h0
        obtain ⟨m0, m1, m2, _⟩ := cells3 hin.at'
        obtain ⟨d, hd⟩ : ∃ d, d = k % 10 := ⟨_, rfl⟩
        obtain ⟨k', hk'⟩ : ∃ k', k' = k / 10 := ⟨_, rfl⟩
        have e1 : (k : Int) % 10 = (d : Int) := by omega
        have e2 : (k : Int) / 10 = (k' : Int) := by omega
        have hOl : O.length ≤ 100 := by
          have h := congrArg List.length hin.dig
          rw [List.length_append] at h
          have := (D_len N 100).2 (by have : (9223372036854775807 : Nat) < 10 ^ 100 := by decide
                                      omega)
          omega
        have hlt := (Array.getElem?_eq_some_iff.1 hin.at').1
        have ho1 := hin.own.kept ((Below.refl wr.heap.size wr).alloc (Nat.le_refl _) (.cells #[.int .i64 (d : Int)] 3))
        have hcell : (wr.alloc (.cells #[.int .i64 (d : Int)] 3)).cell? ⟨wr.heap.size, 0, none⟩ = some (i64v d) := (Row.new (E := 3) wr #[.int .i64 (d : Int)]).cell 0 _ rfl
        have HIN := Lib.hid hin
        have HD := Lib.hid hd
        have HK := Lib.hid hk'
        clear hin hd hk'
        go_wp2_with (first | (at_builtin; refine wpList_append_new _ rfl (.tmp 16) (.tmp 19) 75 rfl 3 (.int .i64 0) 8 Tryd.underlying75 info_int rfl i64v (w.heap.size + 1) a _ _ O rfl ho1 rfl ⟨wr.heap.size, 0, none⟩ 1 d rfl hcell rfl (by unfold maxLen; omega) (by omega) ?_; intro g' cap' w' hrow' hcap hgrow hg'; obtain ⟨hn1, hn2, hn3⟩ := HIN.out.next h0 HD.out HK.out hrow' hcap hgrow hg'; have HN := Lib.hid hn1; clear hn1 hrow' hgrow hg' ho1 hcell m0 m1 m2) | fail)
        go_roundw
        case rel => exact ⟨k', some ⟨g', 0, none⟩, cap', O ++ [d], by go_num, by have := HK.out; omega, HN.out⟩
        case measure => have := HK.out; simp [intOf] <;> omega
  · have hd : decide (n < 0) = false := decide_eq_false (by omega)
    rw [hd] at HS HQ
    obtain rfl : n = (N : Int) := by omega
    clear hN
    go_enter Tryd.func71, Tryd.ntmps71
    go_wp2_with fail
    go_loopw [0] (fun v wr => ∃ (k : Nat) (a : Option Addr) (c : Nat) (O : List Nat), v = .int .i64 k ∧ k ≤ N ∧ IntAt w N false k a c O wr) (fun v _ => (intOf v).toNat)
    case atStart => exact ⟨N, _, 0, [], rfl, Nat.le_refl _, HS.out⟩
    case round =>
      obtain ⟨k, a, c, O, rfl, hkN, hin⟩ := hrel
      clear HS
      rcases Nat.eq_zero_or_pos k with h0 | h0
      · subst h0
        obtain ⟨m0, m1, m2, _⟩ := cells3 hin.at'
        obtain ⟨r0, r1, r2, q0, q1, q2⟩ := hin.res.cells
        have HE := Lib.hid (HQ.out _ _ hin.ends.2)
        clear hin HQ
        go_wp2_with fail
        exact bodyPost_ret (v := ratV false (.slice a O.length c) (.slice (some ⟨w.heap.size + 1 + 1, 0, none⟩) 1 1)) (by simp [results, Tryd.results71, go_sem, ratV, r0, r1, r2]) rfl HE.out
      · have h0i : (0 : Int) < (k : Int) := by omega
        have h0d : decide ((0 : Int) < (k : Int)) = true := decide_eq_true h0i
        have h0e : decide (0 < k) = true := decide_eq_true h0
        obtain ⟨m0, m1, m2, _⟩ := cells3 hin.at'
        obtain ⟨d, hd⟩ : ∃ d, d = k % 10 := ⟨_, rfl⟩
        obtain ⟨k', hk'⟩ : ∃ k', k' = k / 10 := ⟨_, rfl⟩
        have e1 : (k : Int) % 10 = (d : Int) := by omega
        have e2 : (k : Int) / 10 = (k' : Int) := by omega
        have hOl : O.length ≤ 100 := by
          have h := congrArg List.length hin.dig
          rw [List.length_append] at h
          have := (D_len N 100).2 (by have : (9223372036854775807 : Nat) < 10 ^ 100 := by decide
                                      omega)
          omega
        have hlt := (Array.getElem?_eq_some_iff.1 hin.at').1
        have ho1 := hin.own.kept ((Below.refl wr.heap.size wr).alloc (Nat.le_refl _) (.cells #[.int .i64 (d : Int)] 3))
        have hcell : (wr.alloc (.cells #[.int .i64 (d : Int)] 3)).cell? ⟨wr.heap.size, 0, none⟩ = some (i64v d) := (Row.new (E := 3) wr #[.int .i64 (d : Int)]).cell 0 _ rfl
        have HIN := Lib.hid hin
        have HD := Lib.hid hd
        have HK := Lib.hid hk'
        clear hin hd hk'
        go_wp2_with (first | (at_builtin; refine wpList_append_new _ rfl (.tmp 16) (.tmp 19) 75 rfl 3 (.int .i64 0) 8 Tryd.underlying75 info_int rfl i64v (w.heap.size + 1) a _ _ O rfl ho1 rfl ⟨wr.heap.size, 0, none⟩ 1 d rfl hcell rfl (by unfold maxLen; omega) (by omega) ?_; intro g' cap' w' hrow' hcap hgrow hg'; obtain ⟨hn1, hn2, hn3⟩ := HIN.out.next h0 HD.out HK.out hrow' hcap hgrow hg'; have HN := Lib.hid hn1; clear hn1 hrow' hgrow hg' ho1 hcell m0 m1 m2) | fail)
        go_roundw
        case rel => exact ⟨k', some ⟨g', 0, none⟩, cap', O ++ [d], by go_num, by have := HK.out; omega, HN.out⟩
        case measure => have := HK.out; simp [intOf] <;> omega
end Go.Proofs.YtomoemgoglghlaaDoor


/-
  ratio.Of.
-/
set_option linter.unusedVariables false
set_option linter.unusedSimpArgs false
namespace Go.Proofs.YtomoemgoglghlaaDoor
open Go.RowKit Rep


theorem denN_one : denN 1 = 0 := rfl
/-- A result of limbs is written into its block. -/
theorem fin_I {w W0 w' : World} {n : Int} {t : Bool} {a : Option Addr} {c : Nat} (hB0 : Below w.heap.size w W0) (b3 : Blank W0 w.heap.size) (ht : decide (n < 0) = t) (hd : NumAt w' a c n.natAbs) (hb : Below W0.heap.size W0 w') :
    NewQ (qI n) w (.returned (ratV t (.slice a (L n.natAbs).length c) (.slice none 0 0))) (set3 w' w.heap.size t (.slice a (L n.natAbs).length c) (.slice none 0 0)) := by
  obtain ⟨e1, e2, e3⟩ := qI_parts n
  have hat : AtQ w' a c none 0 (qI n) := ⟨by rw [e2]; exact hd, by rw [e3, denN_one]; exact NumAt.zero w'⟩
  refine ⟨a, c, none, 0, ?_, hat.set3 (b3.kept hb).rat _ _ _, set3_below (hB0.trans (hb.mono hB0.size)) (Nat.le_refl _)⟩
  unfold qV
  rw [e1, e2, e3, ht]
  rfl

set_option maxRecDepth 100000 in
set_option maxHeartbeats 2000000 in
theorem OfP_any (n : Int) (w : World) (h1 : -9223372036854775808 ≤ n) (h2 : n ≤ 9223372036854775807) : Calls Tryd.prog 14 #[.int .i64 n] w (NewQ (qI n) w) := by
  obtain ⟨W0, hW0⟩ : ∃ W0, W0 = w.alloc (.cells #[.bool false, .slice none 0 0, .slice none 0 0] 27) := ⟨_, rfl⟩
  have hB0 : Below w.heap.size w W0 := by rw [hW0]; exact (Below.refl _ _).alloc (Nat.le_refl _) _
  have hr0 : Blank W0 w.heap.size := by rw [hW0]; exact heap_alloc_new w _
  obtain ⟨N, hN⟩ : ∃ N : Nat, N = n.natAbs := ⟨_, rfl⟩
  have HO := Lib.hid (of_any N (by omega) W0)
  have HF : Hid (∀ t a c w', decide (n < 0) = t → NumAt w' a c N → Below W0.heap.size W0 w' → NewQ (qI n) w (.returned (ratV t (.slice a (L N).length c) (.slice none 0 0))) (set3 w' w.heap.size t (.slice a (L N).length c) (.slice none 0 0))) := Lib.hid fun t a c w' ht hd hb => by
    subst hN
    exact fin_I hB0 hr0 ht hd hb
  have HK : Hid (∀ w', Below W0.heap.size W0 w' → Blank w' w.heap.size) := Lib.hid fun w' h => hr0.kept h
  have HW0 := Lib.hid hW0
  clear hB0 hr0 hW0
  rcases Int.lt_or_le n 0 with hneg | hneg
  · have hd : decide (n < 0) = true := decide_eq_true hneg
    have HD := Lib.hid hd
    have hu : IntKind.u64.wrap (IntKind.i64.wrap (-n)) = (N : Int) := by
      rcases Int.lt_or_le (-9223372036854775808) n with h | h
      · rw [IntWalk.i64_in _ (by omega)]
        rw [IntWalk.u64_in _ (by omega)]
        omega
      · obtain rfl : n = -9223372036854775808 := by omega
        rw [hN]
        decide
    clear hN
    by_cases hmin : n = -9223372036854775808
    · subst hmin
      have hN2 : N = 9223372036854775808 := by have : ((9223372036854775808 : Int)) = (N : Int) := hu; omega
      subst hN2
      clear hu
      go_enter Tryd.func14, Tryd.ntmps14
      go_wp2_with fail
      rw [← HW0.out, show IntKind.u64.wrap (wrap64 9223372036854775808) = ((9223372036854775808 : Nat) : Int) by kernel_rfl]
      refine HO.out.mono ?_
      rintro e w2 ⟨a, c, rfl, hd2, hb2⟩
      obtain ⟨m0, m1, m2, n0, n1, n2⟩ := (HK.out _ hb2).cells
      have HE := Lib.hid (HF.out true a c w2 HD.out hd2 hb2)
      clear hd2 hb2 HO HF HK HW0
      generalize (L 9223372036854775808).length = len at *
      go_wp2_with fail
      exact bodyPost_ret (v := ratV true (.slice a len c) (.slice none 0 0)) (by simp [results, Tryd.results14, go_sem, ratV, m0, m1, m2]) rfl HE.out
    · have hw : -n = (N : Int) := by
        rw [IntWalk.i64_in _ (by omega), IntWalk.u64_in _ (by omega)] at hu
        exact hu
      have hNb : N ≤ 9223372036854775807 := by omega
      clear hu hmin
      go_enter Tryd.func14, Tryd.ntmps14
      go_wp2_with fail
      rw [← HW0.out]
      refine HO.out.mono ?_
      rintro e w2 ⟨a, c, rfl, hd2, hb2⟩
      obtain ⟨m0, m1, m2, n0, n1, n2⟩ := (HK.out _ hb2).cells
      have HE := Lib.hid (HF.out true a c w2 HD.out hd2 hb2)
      clear hd2 hb2 HO HF HK HW0
      generalize (L N).length = len at *
      go_wp2_with fail
      exact bodyPost_ret (v := ratV true (.slice a len c) (.slice none 0 0)) (by simp [results, Tryd.results14, go_sem, ratV, m0, m1, m2]) rfl HE.out
  · have hd : decide (n < 0) = false := decide_eq_false (by omega)
    have HD := Lib.hid hd
    obtain rfl : n = (N : Int) := by omega
    have hNb : N ≤ 9223372036854775807 := by omega
    clear hN
    go_enter Tryd.func14, Tryd.ntmps14
    go_wp2_with fail
    rw [← HW0.out]
    refine HO.out.mono ?_
    rintro e w2 ⟨a, c, rfl, hd2, hb2⟩
    obtain ⟨m0, m1, m2, n0, n1, n2⟩ := (HK.out _ hb2).cells
    have HE := Lib.hid (HF.out false a c w2 HD.out hd2 hb2)
    clear hd2 hb2 HO HF HK HW0
    generalize (L N).length = len at *
    go_wp2_with fail
    exact bodyPost_ret (v := ratV false (.slice a len c) (.slice none 0 0)) (by simp [results, Tryd.results14, go_sem, ratV, m0, m1, m2]) rfl HE.out

end Go.Proofs.YtomoemgoglghlaaDoor


/-
  delta.Of; law03's example.
-/
set_option linter.unusedVariables false
set_option linter.unusedSimpArgs false
namespace Go.Proofs.YtomoemgoglghlaaDoor
open Go.RowKit Rep


theorem clone_num {W : World} {a : Option Addr} {c n : Nat} (h : NumAt W a c n) (hl : (L n).length ≤ 1000000) :
    Calls Tryd.prog 31 #[.slice a (L n).length c] W fun e W' => ∃ a' c', e = .returned (.slice a' (L n).length c') ∧ Hid (Below W.heap.size W W') ∧ Hid (NumAt W' a' c' n) := by
  cases a with
  | some p =>
    refine (clone_some p (L n) c W h.1 (by omega)).mono ?_
    rintro e W' ⟨a', c', rfl, ho, hb⟩
    refine ⟨a', c', rfl, Lib.hid hb, Lib.hid ⟨ho.reads, ?_, ho.1⟩⟩
    obtain ⟨_, ⟨rfl, rfl, h2⟩ | ⟨g, rfl, _, hr⟩⟩ := ho
    · rw [h2]; simp
    · simpa using hr.le
  | none =>
    have h0 : L n = [] := by
      rcases h.1 with h1 | ⟨g, off, h1, _⟩
      · simpa using h1
      · cases h1
    have hn : n = 0 := L_len_zero.1 (by rw [h0]; rfl)
    subst hn
    refine (clone_nil c W).mono ?_
    rintro e W' ⟨a', c', rfl, ho, hb⟩
    refine ⟨a', c', rfl, Lib.hid hb, Lib.hid ⟨ho.reads, ?_, ho.1⟩⟩
    simp [L_zero]
theorem fin_of {W5 w W0 W : World} {q : Rat} {s : Bool} {a1 a2 b1 b2 : Option Addr} {l1 c1 l2 c2 e1 e2 : Nat} (hb5 : Below W5.heap.size W5 w) (hB0 : Below w.heap.size w W0) (k0 : W0.heap[w.heap.size]? = some (.cells #[.bool s, .slice a1 l1 c1, .slice a2 l2 c2] 27 (0, 0))) (b3 : Six W0 (w.heap.size + 1) 29) (hb : Below W0.heap.size W0 W)
    (h0 : s = ngQ q) (h1 : l1 = (L (mgQ q)).length) (h2 : l2 = (L (denN q.den)).length) (n1 : NumAt W b1 e1 (mgQ q)) (n2 : NumAt W b2 e2 (denN q.den)) :
    GotQQ W5 q 0 (.returned (.agg #[.bool s, .slice b1 l1 e1, .slice b2 l2 e2, .bool false, .slice none 0 0, .slice none 0 0])) (set6 ((W.setCell ⟨w.heap.size, 1, none⟩ (.slice b1 l1 e1)).setCell ⟨w.heap.size, 2, none⟩ (.slice b2 l2 e2)) (w.heap.size + 1) s (.slice b1 l1 e1) (.slice b2 l2 e2) false (.slice none 0 0) (.slice none 0 0)) := by
  have hk := stay k0 hb
  have hs : Six W (w.heap.size + 1) 29 := stay b3 hb
  have hrb : RatBlock W w.heap.size := ⟨_, _, _, _, _, _, _, hk⟩
  have hg : W.grownBy ((W.setCell ⟨w.heap.size, 1, none⟩ (.slice b1 l1 e1)).setCell ⟨w.heap.size, 2, none⟩ (.slice b2 l2 e2)) (some w.heap.size) := grownBy_set (grownBy_set (grown_refl W _))
  have hs2 := hs.grown hg (by omega)
  have hv : VQ q (s, (b1, l1, e1), (b2, l2, e2)) ((W.setCell ⟨w.heap.size, 1, none⟩ (.slice b1 l1 e1)).setCell ⟨w.heap.size, 2, none⟩ (.slice b2 l2 e2)) :=
    ⟨h0, h1, h2, ⟨⟨n1.1.grown hg (hrb.apart n1.1), n1.2⟩, ⟨n2.1.grown hg (hrb.apart n2.1), n2.2⟩⟩⟩
  have h5 := hb5.size
  have hbw : Below W5.heap.size W5 W := hb5.trans ((hB0.trans (hb.mono hB0.size)).mono h5)
  exact ⟨s, b1, l1, e1, b2, l2, e2, false, none, 0, 0, none, 0, 0, rfl, Lib.hid (set6_below ((hbw.setCell (p := ⟨w.heap.size, 1, none⟩) h5 _).setCell (p := ⟨w.heap.size, 2, none⟩) h5 _) (by omega)), Lib.hid (hv.set6 hs2 _ _ _ _ _ _), Lib.hid ((vq_z _).set6 hs2 _ _ _ _ _ _)⟩

set_option maxRecDepth 100000 in
set_option maxHeartbeats 8000000 in
theorem DelOf {W5 w : World} {ys : Bool} {ya yb : Option Addr} {yl yc yk ye : Nat} {k : Rat} (hy : VQ k (ys, (ya, yl, yc), (yb, yk, ye)) w) (zk : szQ k ≤ 100) (hb5 : Below W5.heap.size W5 w) :
    Calls Tryd.prog 15 #[.agg #[.bool ys, .slice ya yl yc, .slice yb yk ye]] w (GotQQ W5 k 0) := by
  obtain ⟨W0, hW0, hB0, b0, b1, hs⟩ := boxes2 w #[.bool ys, .slice ya yl yc, .slice yb yk ye] #[.bool false, .slice none 0 0, .slice none 0 0, .bool false, .slice none 0 0, .slice none 0 0] 27 29
  obtain ⟨h0, h1, h2, h3⟩ := hy
  dsimp only at h0 h1 h2 h3
  unfold szQ at zk
  have h3' := h3.kept hB0
  have HC1 : Hid (∀ W, Below W0.heap.size W0 W → Calls Tryd.prog 31 #[.slice ya yl yc] W fun e W' => ∃ a' c', e = .returned (.slice a' yl c') ∧ Hid (Below W.heap.size W W') ∧ Hid (NumAt W' a' c' (mgQ k))) := Lib.hid fun W h => by
    rw [h1]; exact clone_num (h3'.kept h).num (by omega)
  have HC2 : Hid (∀ W, Below W0.heap.size W0 W → Calls Tryd.prog 31 #[.slice yb yk ye] W fun e W' => ∃ a' c', e = .returned (.slice a' yk c') ∧ Hid (Below W.heap.size W W') ∧ Hid (NumAt W' a' c' (denN k.den))) := Lib.hid fun W h => by
    rw [h2]; exact clone_num (h3'.kept h).den (by omega)
  have HK : Hid (∀ W, Below W0.heap.size W0 W → _) := Lib.hid fun W h => cells3 (stay b0 h)
  have HR : Hid (∀ W, Below W0.heap.size W0 W → _) := Lib.hid fun W h => cells6 (stay b1 h)
  have HFIN : Hid (∀ W a3 c3 a4 c4, Below W0.heap.size W0 W → NumAt W a3 c3 (mgQ k) → NumAt W a4 c4 (denN k.den) → _) := Lib.hid fun W a3 c3 a4 c4 hb n1 n2 => fin_of hb5 hB0 b0 b1 hb h0 h1 h2 n1 n2
  have HW0 := Lib.hid hW0
  obtain ⟨k0, k1, k2, f0, f1, f2⟩ := HK.out W0 (Below.refl _ _)
  have hn1 : w.heap.size ≠ w.heap.size + 1 := by omega
  have hn2 : w.heap.size + 1 ≠ w.heap.size := by omega
  clear hW0 hB0 b0 b1 hs h0 h1 h2 h3 h3' zk hb5
  go_enter Tryd.func15, Tryd.ntmps15
  go_wp2_with fail
  rw [← HW0.out]
  refine wp_region_held_drew (S := (fun _ => True)) (by kernel_rfl) (by trivial) (fun hHeld => ?_)
  refine wpAnyH_take (i := 0) (v := ?_) (by rfl) (by kernel_rfl) (by kernel_rfl) (by kernel_rfl) (by exact fun _ _ _ h => h) (Or.inl ⟨by rfl, ?_⟩) hHeld ?_
  rotate_left 1
  · intro w' hSw
    go_simp
    try with_reducible rfl
  try simp only [Act.put, List.setIfInBounds_toArray, List.set_cons_zero, List.set_cons_succ, List.getElem_toArray, List.getElem_cons_zero, List.getElem_cons_succ]
  refine wpAnyH_take (i := 1) (v := ?_) (by rfl) (by kernel_rfl) (by kernel_rfl) (by kernel_rfl) (by exact fun _ _ _ h => h) (Or.inl ⟨by rfl, ?_⟩) hHeld ?_
  rotate_left 1
  · intro w' hSw
    go_simp
    try with_reducible rfl
  try simp only [Act.put, List.setIfInBounds_toArray, List.set_cons_zero, List.set_cons_succ, List.getElem_toArray, List.getElem_cons_zero, List.getElem_cons_succ]
  refine wpAnyH_take (i := 4) (v := ?_) (by rfl) (by kernel_rfl) (by kernel_rfl) (by kernel_rfl) (by exact fun _ _ _ h => h) (Or.inl ⟨by rfl, ?_⟩) hHeld ?_
  rotate_left 1
  · intro w' hSw
    go_simp
    try with_reducible rfl
  try simp only [Act.put, List.setIfInBounds_toArray, List.set_cons_zero, List.set_cons_succ, List.getElem_toArray, List.getElem_cons_zero, List.getElem_cons_succ]
  refine wpAnyH_ready (rs := [2, 5]) (by kernel_rfl) (by simp) ?_
  refine AllReadyH.cons (by rfl) (fun K hK => ?_) ?_
  · go_simp
    refine hK.out _ _ (by trivial) (fun hHeld => ?_)
    clear hK K
    try simp only [Act.put, List.setIfInBounds_toArray, List.set_cons_zero, List.set_cons_succ, List.getElem_toArray, List.getElem_cons_zero, List.getElem_cons_succ]
    refine wpAnyH_ready (rs := [3, 5]) (by kernel_rfl) (by simp) ?_
    refine AllReadyH.cons (by rfl) (fun K hK => ?_) ?_
    · go_simp
      with_reducible refine (HC1.out _ (below_drew _)).mono ?_
      rintro e w3 ⟨a3, c3, rfl, G3, N3⟩
      have hb3 := (below_drew W0).trans (G3.out.mono (Nat.le_refl _))
      obtain ⟨k0, k1, k2, f0, f1, f2⟩ := HK.out _ hb3
      refine hK.out _ _ (by trivial) (fun hHeld => ?_)
      clear hK K
      try simp only [Act.put, List.setIfInBounds_toArray, List.set_cons_zero, List.set_cons_succ, List.getElem_toArray, List.getElem_cons_zero, List.getElem_cons_succ]
      refine wpAnyH_ready (rs := [5]) (by kernel_rfl) (by simp) ?_
      refine AllReadyH.cons (by rfl) (fun K hK => ?_) ?_
      · go_simp
        refine hK.out _ _ (by trivial) (fun hHeld => ?_)
        clear hK K
        try simp only [Act.put, List.setIfInBounds_toArray, List.set_cons_zero, List.set_cons_succ, List.getElem_toArray, List.getElem_cons_zero, List.getElem_cons_succ]
        refine wpAnyH_take (i := 7) (v := ?_) (by rfl) (by kernel_rfl) (by kernel_rfl) (by kernel_rfl) (by exact fun _ _ _ h => h) (Or.inl ⟨by rfl, ?_⟩) hHeld ?_
        rotate_left 1
        · intro w' hSw
          go_simp
          try with_reducible rfl
        try simp only [Act.put, List.setIfInBounds_toArray, List.set_cons_zero, List.set_cons_succ, List.getElem_toArray, List.getElem_cons_zero, List.getElem_cons_succ]
        refine wpAnyH_take (i := 8) (v := ?_) (by rfl) (by kernel_rfl) (by kernel_rfl) (by kernel_rfl) (by exact fun _ _ _ h => h) (Or.inl ⟨by rfl, ?_⟩) hHeld ?_
        rotate_left 1
        · intro w' hSw
          go_simp
          try with_reducible rfl
        try simp only [Act.put, List.setIfInBounds_toArray, List.set_cons_zero, List.set_cons_succ, List.getElem_toArray, List.getElem_cons_zero, List.getElem_cons_succ]
        refine wpAnyH_ready (rs := [6]) (by kernel_rfl) (by simp) ?_
        refine AllReadyH.cons (by rfl) (fun K hK => ?_) ?_
        · go_simp
          with_reducible refine (HC2.out _ hb3).mono ?_
          rintro e w4 ⟨a4, c4, rfl, G4, N4⟩
          have hb4 := hb3.trans (G4.out.mono hb3.size)
          obtain ⟨k0, k1, k2, f0, f1, f2⟩ := HK.out _ hb4
          obtain ⟨m0, m1, m2, m3, m4, m5, n0, n1, n2, n3, n4, n5⟩ := HR.out _ hb4
          have HE := Lib.hid (HFIN.out _ _ _ _ _ hb4 (N3.out.kept G4.out) N4.out)
          refine hK.out _ _ (by trivial) (fun hHeld => ?_)
          clear hK K
          try simp only [Act.put, List.setIfInBounds_toArray, List.set_cons_zero, List.set_cons_succ, List.getElem_toArray, List.getElem_cons_zero, List.getElem_cons_succ]
          refine wpAnyH_ready (rs := [9]) (by kernel_rfl) (by simp) ?_
          refine AllReadyH.cons (by rfl) (fun K hK => ?_) ?_
          · go_simp
            refine hK.out _ _ (by trivial) (fun hHeld => ?_)
            clear hK K
            try simp only [Act.put, List.setIfInBounds_toArray, List.set_cons_zero, List.set_cons_succ, List.getElem_toArray, List.getElem_cons_zero, List.getElem_cons_succ]
            refine wpAnyH_take (i := 10) (v := ?_) (by rfl) (by kernel_rfl) (by kernel_rfl) (by kernel_rfl) (by exact fun _ _ _ h => h) (Or.inl ⟨by rfl, ?_⟩) hHeld ?_
            rotate_left 1
            · intro w' hSw
              go_simp
              try with_reducible rfl
            try simp only [Act.put, List.setIfInBounds_toArray, List.set_cons_zero, List.set_cons_succ, List.getElem_toArray, List.getElem_cons_zero, List.getElem_cons_succ]
            refine wpAnyH_ready (rs := [11]) (by kernel_rfl) (by simp) ?_
            refine AllReadyH.cons (by rfl) (fun K hK => ?_) ?_
            · go_simp
              refine hK.out _ _ (by trivial) (fun hHeld => ?_)
              clear hK K
              try simp only [Act.put, List.setIfInBounds_toArray, List.set_cons_zero, List.set_cons_succ, List.getElem_toArray, List.getElem_cons_zero, List.getElem_cons_succ]
              refine wpAnyH_done (by kernel_rfl) ?_ _
              clear hHeld HC1 HC2 HK HR HFIN
              go_wp2_with fail
              exact bodyPost_ret (v := .agg #[.bool ys, .slice a3 yl c3, .slice a4 yk c4, .bool false, .slice none 0 0, .slice none 0 0]) (by simp [results, Tryd.results15, go_sem, m0, m1, m2, m3, m4, m5]) rfl HE.out
            exact AllReadyH.nil
          exact AllReadyH.nil
        exact AllReadyH.nil
      exact AllReadyH.nil
    refine AllReadyH.cons (by rfl) (fun K hK => ?_) ?_
    · go_simp
      refine hK.out _ _ (by trivial) (fun hHeld => ?_)
      clear hK K
      try simp only [Act.put, List.setIfInBounds_toArray, List.set_cons_zero, List.set_cons_succ, List.getElem_toArray, List.getElem_cons_zero, List.getElem_cons_succ]
      refine wpAnyH_ready (rs := [3]) (by kernel_rfl) (by simp) ?_
      refine AllReadyH.cons (by rfl) (fun K hK => ?_) ?_
      · go_simp
        with_reducible refine (HC1.out _ (below_drew _)).mono ?_
        rintro e w3 ⟨a3, c3, rfl, G3, N3⟩
        have hb3 := (below_drew W0).trans (G3.out.mono (Nat.le_refl _))
        obtain ⟨k0, k1, k2, f0, f1, f2⟩ := HK.out _ hb3
        refine hK.out _ _ (by trivial) (fun hHeld => ?_)
        clear hK K
        try simp only [Act.put, List.setIfInBounds_toArray, List.set_cons_zero, List.set_cons_succ, List.getElem_toArray, List.getElem_cons_zero, List.getElem_cons_succ]
        refine wpAnyH_take (i := 7) (v := ?_) (by rfl) (by kernel_rfl) (by kernel_rfl) (by kernel_rfl) (by exact fun _ _ _ h => h) (Or.inl ⟨by rfl, ?_⟩) hHeld ?_
        rotate_left 1
        · intro w' hSw
          go_simp
          try with_reducible rfl
        try simp only [Act.put, List.setIfInBounds_toArray, List.set_cons_zero, List.set_cons_succ, List.getElem_toArray, List.getElem_cons_zero, List.getElem_cons_succ]
        refine wpAnyH_take (i := 8) (v := ?_) (by rfl) (by kernel_rfl) (by kernel_rfl) (by kernel_rfl) (by exact fun _ _ _ h => h) (Or.inl ⟨by rfl, ?_⟩) hHeld ?_
        rotate_left 1
        · intro w' hSw
          go_simp
          try with_reducible rfl
        try simp only [Act.put, List.setIfInBounds_toArray, List.set_cons_zero, List.set_cons_succ, List.getElem_toArray, List.getElem_cons_zero, List.getElem_cons_succ]
        refine wpAnyH_ready (rs := [6]) (by kernel_rfl) (by simp) ?_
        refine AllReadyH.cons (by rfl) (fun K hK => ?_) ?_
        · go_simp
          with_reducible refine (HC2.out _ hb3).mono ?_
          rintro e w4 ⟨a4, c4, rfl, G4, N4⟩
          have hb4 := hb3.trans (G4.out.mono hb3.size)
          obtain ⟨k0, k1, k2, f0, f1, f2⟩ := HK.out _ hb4
          obtain ⟨m0, m1, m2, m3, m4, m5, n0, n1, n2, n3, n4, n5⟩ := HR.out _ hb4
          have HE := Lib.hid (HFIN.out _ _ _ _ _ hb4 (N3.out.kept G4.out) N4.out)
          refine hK.out _ _ (by trivial) (fun hHeld => ?_)
          clear hK K
          try simp only [Act.put, List.setIfInBounds_toArray, List.set_cons_zero, List.set_cons_succ, List.getElem_toArray, List.getElem_cons_zero, List.getElem_cons_succ]
          refine wpAnyH_ready (rs := [9]) (by kernel_rfl) (by simp) ?_
          refine AllReadyH.cons (by rfl) (fun K hK => ?_) ?_
          · go_simp
            refine hK.out _ _ (by trivial) (fun hHeld => ?_)
            clear hK K
            try simp only [Act.put, List.setIfInBounds_toArray, List.set_cons_zero, List.set_cons_succ, List.getElem_toArray, List.getElem_cons_zero, List.getElem_cons_succ]
            refine wpAnyH_take (i := 10) (v := ?_) (by rfl) (by kernel_rfl) (by kernel_rfl) (by kernel_rfl) (by exact fun _ _ _ h => h) (Or.inl ⟨by rfl, ?_⟩) hHeld ?_
            rotate_left 1
            · intro w' hSw
              go_simp
              try with_reducible rfl
            try simp only [Act.put, List.setIfInBounds_toArray, List.set_cons_zero, List.set_cons_succ, List.getElem_toArray, List.getElem_cons_zero, List.getElem_cons_succ]
            refine wpAnyH_ready (rs := [11]) (by kernel_rfl) (by simp) ?_
            refine AllReadyH.cons (by rfl) (fun K hK => ?_) ?_
            · go_simp
              refine hK.out _ _ (by trivial) (fun hHeld => ?_)
              clear hK K
              try simp only [Act.put, List.setIfInBounds_toArray, List.set_cons_zero, List.set_cons_succ, List.getElem_toArray, List.getElem_cons_zero, List.getElem_cons_succ]
              refine wpAnyH_done (by kernel_rfl) ?_ _
              clear hHeld HC1 HC2 HK HR HFIN
              go_wp2_with fail
              exact bodyPost_ret (v := .agg #[.bool ys, .slice a3 yl c3, .slice a4 yk c4, .bool false, .slice none 0 0, .slice none 0 0]) (by simp [results, Tryd.results15, go_sem, m0, m1, m2, m3, m4, m5]) rfl HE.out
            exact AllReadyH.nil
          exact AllReadyH.nil
        exact AllReadyH.nil
      exact AllReadyH.nil
    exact AllReadyH.nil
  refine AllReadyH.cons (by rfl) (fun K hK => ?_) ?_
  · go_simp
    refine hK.out _ _ (by trivial) (fun hHeld => ?_)
    clear hK K
    try simp only [Act.put, List.setIfInBounds_toArray, List.set_cons_zero, List.set_cons_succ, List.getElem_toArray, List.getElem_cons_zero, List.getElem_cons_succ]
    refine wpAnyH_ready (rs := [2]) (by kernel_rfl) (by simp) ?_
    refine AllReadyH.cons (by rfl) (fun K hK => ?_) ?_
    · go_simp
      refine hK.out _ _ (by trivial) (fun hHeld => ?_)
      clear hK K
      try simp only [Act.put, List.setIfInBounds_toArray, List.set_cons_zero, List.set_cons_succ, List.getElem_toArray, List.getElem_cons_zero, List.getElem_cons_succ]
      refine wpAnyH_ready (rs := [3]) (by kernel_rfl) (by simp) ?_
      refine AllReadyH.cons (by rfl) (fun K hK => ?_) ?_
      · go_simp
        with_reducible refine (HC1.out _ (below_drew _)).mono ?_
        rintro e w3 ⟨a3, c3, rfl, G3, N3⟩
        have hb3 := (below_drew W0).trans (G3.out.mono (Nat.le_refl _))
        obtain ⟨k0, k1, k2, f0, f1, f2⟩ := HK.out _ hb3
        refine hK.out _ _ (by trivial) (fun hHeld => ?_)
        clear hK K
        try simp only [Act.put, List.setIfInBounds_toArray, List.set_cons_zero, List.set_cons_succ, List.getElem_toArray, List.getElem_cons_zero, List.getElem_cons_succ]
        refine wpAnyH_take (i := 7) (v := ?_) (by rfl) (by kernel_rfl) (by kernel_rfl) (by kernel_rfl) (by exact fun _ _ _ h => h) (Or.inl ⟨by rfl, ?_⟩) hHeld ?_
        rotate_left 1
        · intro w' hSw
          go_simp
          try with_reducible rfl
        try simp only [Act.put, List.setIfInBounds_toArray, List.set_cons_zero, List.set_cons_succ, List.getElem_toArray, List.getElem_cons_zero, List.getElem_cons_succ]
        refine wpAnyH_take (i := 8) (v := ?_) (by rfl) (by kernel_rfl) (by kernel_rfl) (by kernel_rfl) (by exact fun _ _ _ h => h) (Or.inl ⟨by rfl, ?_⟩) hHeld ?_
        rotate_left 1
        · intro w' hSw
          go_simp
          try with_reducible rfl
        try simp only [Act.put, List.setIfInBounds_toArray, List.set_cons_zero, List.set_cons_succ, List.getElem_toArray, List.getElem_cons_zero, List.getElem_cons_succ]
        refine wpAnyH_ready (rs := [6]) (by kernel_rfl) (by simp) ?_
        refine AllReadyH.cons (by rfl) (fun K hK => ?_) ?_
        · go_simp
          with_reducible refine (HC2.out _ hb3).mono ?_
          rintro e w4 ⟨a4, c4, rfl, G4, N4⟩
          have hb4 := hb3.trans (G4.out.mono hb3.size)
          obtain ⟨k0, k1, k2, f0, f1, f2⟩ := HK.out _ hb4
          obtain ⟨m0, m1, m2, m3, m4, m5, n0, n1, n2, n3, n4, n5⟩ := HR.out _ hb4
          have HE := Lib.hid (HFIN.out _ _ _ _ _ hb4 (N3.out.kept G4.out) N4.out)
          refine hK.out _ _ (by trivial) (fun hHeld => ?_)
          clear hK K
          try simp only [Act.put, List.setIfInBounds_toArray, List.set_cons_zero, List.set_cons_succ, List.getElem_toArray, List.getElem_cons_zero, List.getElem_cons_succ]
          refine wpAnyH_ready (rs := [9]) (by kernel_rfl) (by simp) ?_
          refine AllReadyH.cons (by rfl) (fun K hK => ?_) ?_
          · go_simp
            refine hK.out _ _ (by trivial) (fun hHeld => ?_)
            clear hK K
            try simp only [Act.put, List.setIfInBounds_toArray, List.set_cons_zero, List.set_cons_succ, List.getElem_toArray, List.getElem_cons_zero, List.getElem_cons_succ]
            refine wpAnyH_take (i := 10) (v := ?_) (by rfl) (by kernel_rfl) (by kernel_rfl) (by kernel_rfl) (by exact fun _ _ _ h => h) (Or.inl ⟨by rfl, ?_⟩) hHeld ?_
            rotate_left 1
            · intro w' hSw
              go_simp
              try with_reducible rfl
            try simp only [Act.put, List.setIfInBounds_toArray, List.set_cons_zero, List.set_cons_succ, List.getElem_toArray, List.getElem_cons_zero, List.getElem_cons_succ]
            refine wpAnyH_ready (rs := [11]) (by kernel_rfl) (by simp) ?_
            refine AllReadyH.cons (by rfl) (fun K hK => ?_) ?_
            · go_simp
              refine hK.out _ _ (by trivial) (fun hHeld => ?_)
              clear hK K
              try simp only [Act.put, List.setIfInBounds_toArray, List.set_cons_zero, List.set_cons_succ, List.getElem_toArray, List.getElem_cons_zero, List.getElem_cons_succ]
              refine wpAnyH_done (by kernel_rfl) ?_ _
              clear hHeld HC1 HC2 HK HR HFIN
              go_wp2_with fail
              exact bodyPost_ret (v := .agg #[.bool ys, .slice a3 yl c3, .slice a4 yk c4, .bool false, .slice none 0 0, .slice none 0 0]) (by simp [results, Tryd.results15, go_sem, m0, m1, m2, m3, m4, m5]) rfl HE.out
            exact AllReadyH.nil
          exact AllReadyH.nil
        exact AllReadyH.nil
      exact AllReadyH.nil
    exact AllReadyH.nil
  exact AllReadyH.nil

theorem spk_text : textDQ (qI 1) (qI (-1)) = ⟨#[49, 45, 49, 100]⟩ := by
  obtain ⟨a1, b1, c1⟩ := qI_parts 1
  obtain ⟨a2, b2, c2⟩ := qI_parts (-1)
  have h0 : qI (-1) ≠ 0 := fun e => by rw [e] at b2; revert b2; decide
  unfold textDQ
  rw [if_neg h0, a2, if_pos (by decide)]
  unfold textQ
  rw [a1, b1, c1, a2, b2, c2]
  decide +kernel
theorem spk_cmp : cmpDQ (qI 1) (qI (-1)) (qI 1) 0 = -1 := by
  obtain ⟨a2, b2, c2⟩ := qI_parts (-1)
  have h1 : cmpQ (qI 1) (qI 1) = 0 := by unfold cmpQ; rw [if_neg Rat.lt_irrefl, if_pos rfl]
  unfold cmpDQ
  rw [if_pos h1]
  rcases sign_cases (qI (-1)) with ⟨h, _⟩ | ⟨_, _, h⟩ | ⟨_, h, _⟩
  · rw [h] at b2; revert b2; decide
  · exact h
  · rw [a2] at h; revert h; decide

set_option maxRecDepth 100000 in
set_option maxHeartbeats 4000000 in
theorem speaks03 {w : World} (hT : Tab w) : Calls Tryd.prog 4 #[] w (Says w) := by
  have z1 : szQ (qI 1) ≤ 100 := by obtain ⟨a, b, c⟩ := qI_parts 1; unfold szQ; rw [b, c]; decide
  have z2 : szQ (qI (-1)) ≤ 100 := by obtain ⟨a, b, c⟩ := qI_parts (-1); unfold szQ; rw [b, c]; decide
  have HO1 : Hid (∀ (W5 W : World), Below W5.heap.size W5 W → Calls Tryd.prog 14 #[.int .i64 1] W (GotQ W5 (qI 1))) := Lib.hid fun W5 W h => (OfP_any 1 W (by omega) (by omega)).mono fun e W' hg => hg.got h
  have HO2 : Hid (∀ (W5 W : World), Below W5.heap.size W5 W → Calls Tryd.prog 14 #[.int .i64 (-1)] W (GotQ W5 (qI (-1)))) := Lib.hid fun W5 W h => (OfP_any (-1) W (by omega) (by omega)).mono fun e W' hg => hg.got h
  have HZ := Lib.hid (And.intro z1 z2)
  clear hT z1 z2
  go_enter Tryd.func4, Tryd.ntmps4
  go_wp2_with fail
  refine (HO1.out w w (Below.refl _ _)).mono ?_
  rintro e w1 ⟨s1, a1, l1, c1, b1, k1, e1, rfl, HB1, HV1⟩
  go_wp2_with fail
  refine (HO2.out w1 w1 (Below.refl _ _)).mono ?_
  rintro e w2 ⟨s2, a2, l2, c2, b2, k2, e2, rfl, HB2, HV2⟩
  have ha := (Below.refl w2.heap.size w2).alloc (Nat.le_refl _) (.cells #[.bool s1, .slice a1 l1 c1, .slice b1 k1 e1, .bool s2, .slice a2 l2 c2, .slice b2 k2 e2] 29)
  have HVX := Lib.hid ((HV1.out.kept HB2.out).kept ha)
  have HVY := Lib.hid (HV2.out.kept ha)
  have hbw := HB1.out.trans (HB2.out.mono HB1.out.size)
  have HBL := Lib.hid (hbw.trans (ha.mono hbw.size))
  have HK : Hid (∀ W, Below (w2.alloc (.cells #[.bool s1, .slice a1 l1 c1, .slice b1 k1 e1, .bool s2, .slice a2 l2 c2, .slice b2 k2 e2] 29)).heap.size (w2.alloc (.cells #[.bool s1, .slice a1 l1 c1, .slice b1 k1 e1, .bool s2, .slice a2 l2 c2, .slice b2 k2 e2] 29)) W → (W.cell? ⟨w2.heap.size, 0, none⟩ = some (.bool s1) ∧ W.cell? ⟨w2.heap.size, 1, none⟩ = some (.slice a1 l1 c1) ∧ W.cell? ⟨w2.heap.size, 2, none⟩ = some (.slice b1 k1 e1) ∧ W.cell? ⟨w2.heap.size, 3, none⟩ = some (.bool s2) ∧ W.cell? ⟨w2.heap.size, 4, none⟩ = some (.slice a2 l2 c2) ∧ W.cell? ⟨w2.heap.size, 5, none⟩ = some (.slice b2 k2 e2))) := Lib.hid fun W h => by
    obtain ⟨f0, f1, f2, f3, f4, f5, _⟩ := cells6 (stay (heap_alloc_new w2 _) h)
    exact ⟨f0, f1, f2, f3, f4, f5⟩
  clear ha hbw HB1 HB2 HV1 HV2
  go_wp2_with fail
  generalize hW3 : w2.alloc (.cells #[.bool s1, .slice a1 l1 c1, .slice b1 k1 e1, .bool s2, .slice a2 l2 c2, .slice b2 k2 e2] 29) = W3 at *
  have HW3 := Lib.hid hW3
  clear hW3
  have HOD : Hid (∀ W z0 z1 z2 z3 z4 z5 z6, Below W3.heap.size W3 W → VQ (qI 1) (z0, (z1, z2, z3), (z4, z5, z6)) W → Calls Tryd.prog 15 #[.agg #[.bool z0, .slice z1 z2 z3, .slice z4 z5 z6]] W (GotQQ W3 (qI 1) 0)) := Lib.hid fun W z0 z1 z2 z3 z4 z5 z6 h hv => DelOf hv HZ.out.1 h
  have HCM : Hid (∀ W z0 z1 z2 z3 z4 z5 z6 u0 u1 u2 u3 u4 u5 u6, Below W3.heap.size W3 W → VQ (qI 1) (z0, (z1, z2, z3), (z4, z5, z6)) W → VQ 0 (u0, (u1, u2, u3), (u4, u5, u6)) W → Calls Tryd.prog 7 #[.agg #[.bool s1, .slice a1 l1 c1, .slice b1 k1 e1, .bool s2, .slice a2 l2 c2, .slice b2 k2 e2], .agg #[.bool z0, .slice z1 z2 z3, .slice z4 z5 z6, .bool u0, .slice u1 u2 u3, .slice u4 u5 u6]] W (GotV W3 (.int .i64 (-1)))) := Lib.hid fun W z0 z1 z2 z3 z4 z5 z6 u0 u1 u2 u3 u4 u5 u6 h hv hu =>
    CmpPP (HVX.out.kept h) (HVY.out.kept h) hv hu HZ.out.1 HZ.out.2 HZ.out.1 (by rw [szQ_zero]; omega) h spk_cmp
  have HTX : Hid (∀ W, Below W3.heap.size W3 W → Calls Tryd.prog 16 #[.agg #[.bool s1, .slice a1 l1 c1, .slice b1 k1 e1, .bool s2, .slice a2 l2 c2, .slice b2 k2 e2]] W (GotV W3 (.string ⟨#[49, 45, 49, 100]⟩))) := Lib.hid fun W h => TextPP (HVX.out.kept h) (HVY.out.kept h) HZ.out.1 HZ.out.2 h spk_text
  have G0 := Lib.hid (below_drew W3)
  refine wp_region_held_drew (S := (fun w' => w'.cell? ⟨w2.heap.size, 0, none⟩ = some (.bool s1) ∧ w'.cell? ⟨w2.heap.size, 1, none⟩ = some (.slice a1 l1 c1) ∧ w'.cell? ⟨w2.heap.size, 2, none⟩ = some (.slice b1 k1 e1) ∧ w'.cell? ⟨w2.heap.size, 3, none⟩ = some (.bool s2) ∧ w'.cell? ⟨w2.heap.size, 4, none⟩ = some (.slice a2 l2 c2) ∧ w'.cell? ⟨w2.heap.size, 5, none⟩ = some (.slice b2 k2 e2))) (by kernel_rfl) ?_ (fun hHeld => ?_)
  · exact HK.out _ G0.out
  refine wpAnyH_take (i := 0) (v := ?_) (by rfl) (by kernel_rfl) (by kernel_rfl) (by kernel_rfl) (by exact fun _ _ _ h => h) (Or.inl ⟨by rfl, ?_⟩) hHeld ?_
  rotate_left 1
  · intro w' hSw
    go_simp
    try with_reducible rfl
  try simp only [Act.put, List.setIfInBounds_toArray, List.set_cons_zero, List.set_cons_succ, List.getElem_toArray, List.getElem_cons_zero, List.getElem_cons_succ]
  refine wpAnyH_ready (rs := [1]) (by kernel_rfl) (by simp) ?_
  refine AllReadyH.cons (by rfl) (fun K hK => ?_) AllReadyH.nil
  go_simp
  with_reducible refine (HO1.out W3 _ G0.out).mono ?_
  rintro e u1 ⟨z0, z1, z2, z3, z4, z5, z6, rfl, G1, V1⟩
  clear hHeld
  refine hK.out _ _ ?_ (fun hHeld => ?_)
  · exact HK.out _ G1.out
  clear hK K
  try simp only [Act.put, List.setIfInBounds_toArray, List.set_cons_zero, List.set_cons_succ, List.getElem_toArray, List.getElem_cons_zero, List.getElem_cons_succ]
  refine wpAnyH_ready (rs := [2]) (by kernel_rfl) (by simp) ?_
  refine AllReadyH.cons (by rfl) (fun K hK => ?_) AllReadyH.nil
  go_simp
  with_reducible refine (HOD.out _ _ _ _ _ _ _ _ G1.out V1.out).mono ?_
  rintro e u2 ⟨y0, y1, y2, y3, y4, y5, y6, x0, x1, x2, x3, x4, x5, x6, rfl, G2, V2, U2⟩
  clear hHeld
  refine hK.out _ _ ?_ (fun hHeld => ?_)
  · exact HK.out _ G2.out
  clear hK K
  try simp only [Act.put, List.setIfInBounds_toArray, List.set_cons_zero, List.set_cons_succ, List.getElem_toArray, List.getElem_cons_zero, List.getElem_cons_succ]
  refine wpAnyH_ready (rs := [3]) (by kernel_rfl) (by simp) ?_
  refine AllReadyH.cons (by rfl) (fun K hK => ?_) AllReadyH.nil
  go_simp
  with_reducible refine (HCM.out _ _ _ _ _ _ _ _ _ _ _ _ _ _ _ G2.out V2.out U2.out).mono ?_
  rintro e u3 ⟨rfl, G3⟩
  clear hHeld
  refine hK.out _ _ ?_ (fun hHeld => ?_)
  · exact HK.out _ G3.out
  clear hK K
  try simp only [Act.put, List.setIfInBounds_toArray, List.set_cons_zero, List.set_cons_succ, List.getElem_toArray, List.getElem_cons_zero, List.getElem_cons_succ]
  refine wpAnyH_take (i := 4) (v := ?_) (by rfl) (by kernel_rfl) (by kernel_rfl) (by kernel_rfl) (by exact fun _ _ _ h => h) (Or.inl ⟨by rfl, ?_⟩) hHeld ?_
  rotate_left 1
  · intro w' hSw
    go_simp
    try with_reducible rfl
  try simp only [Act.put, List.setIfInBounds_toArray, List.set_cons_zero, List.set_cons_succ, List.getElem_toArray, List.getElem_cons_zero, List.getElem_cons_succ]
  refine wpAnyH_take (i := 5) (v := ?_) (by rfl) (by kernel_rfl) (by kernel_rfl) (by kernel_rfl) (by exact fun _ _ _ h => h) (Or.inl ⟨by rfl, ?_⟩) hHeld ?_
  rotate_left 1
  · intro w' hSw
    go_simp
    try with_reducible rfl
  try simp only [Act.put, List.setIfInBounds_toArray, List.set_cons_zero, List.set_cons_succ, List.getElem_toArray, List.getElem_cons_zero, List.getElem_cons_succ]
  refine wpAnyH_take (i := 6) (v := ?_) (by rfl) (by kernel_rfl) (by kernel_rfl) (by kernel_rfl) (by exact fun _ _ _ h => h) (Or.inl ⟨by rfl, ?_⟩) hHeld ?_
  rotate_left 1
  · intro w' hSw
    go_simp
    try with_reducible rfl
  try simp only [Act.put, List.setIfInBounds_toArray, List.set_cons_zero, List.set_cons_succ, List.getElem_toArray, List.getElem_cons_zero, List.getElem_cons_succ]
  refine wpAnyH_ready (rs := [7]) (by kernel_rfl) (by simp) ?_
  refine AllReadyH.cons (by rfl) (fun K hK => ?_) AllReadyH.nil
  go_simp
  with_reducible refine (HTX.out _ G3.out).mono ?_
  rintro e u4 ⟨rfl, G4⟩
  clear hHeld
  refine hK.out _ _ ?_ (fun hHeld => ?_)
  · exact HK.out _ G4.out
  clear hK K
  try simp only [Act.put, List.setIfInBounds_toArray, List.set_cons_zero, List.set_cons_succ, List.getElem_toArray, List.getElem_cons_zero, List.getElem_cons_succ]
  refine wpAnyH_take (i := 8) (v := ?_) (by rfl) (by kernel_rfl) (by kernel_rfl) (by kernel_rfl) (by exact fun _ _ _ h => h) (Or.inl ⟨by rfl, ?_⟩) hHeld ?_
  rotate_left 1
  · intro w' hSw
    go_simp
    try with_reducible rfl
  try simp only [Act.put, List.setIfInBounds_toArray, List.set_cons_zero, List.set_cons_succ, List.getElem_toArray, List.getElem_cons_zero, List.getElem_cons_succ]
  refine wpAnyH_take (i := 9) (v := ?_) (by rfl) (by kernel_rfl) (by kernel_rfl) (by kernel_rfl) (by exact fun _ _ _ h => h) (Or.inl ⟨by rfl, ?_⟩) hHeld ?_
  rotate_left 1
  · intro w' hSw
    go_simp
    try with_reducible rfl
  try simp only [Act.put, List.setIfInBounds_toArray, List.set_cons_zero, List.set_cons_succ, List.getElem_toArray, List.getElem_cons_zero, List.getElem_cons_succ]
  refine wpAnyH_take (i := 10) (v := ?_) (by rfl) (by kernel_rfl) (by kernel_rfl) (by kernel_rfl) (by exact fun _ _ _ h => h) (Or.inl ⟨by rfl, ?_⟩) hHeld ?_
  rotate_left 1
  · intro w' hSw
    go_simp
    try with_reducible rfl
  try simp only [Act.put, List.setIfInBounds_toArray, List.set_cons_zero, List.set_cons_succ, List.getElem_toArray, List.getElem_cons_zero, List.getElem_cons_succ]
  refine wpAnyH_done (by kernel_rfl) ?_ _
  clear hHeld
  have HE := Lib.hid (HBL.out.trans (G4.out.mono HBL.out.size))
  clear G0 G1 G2 G3 G4 V1 V2 U2
  go_wp2_with fail
  go_ret
  exact ⟨rfl, HE.out⟩
end Go.Proofs.YtomoemgoglghlaaDoor


/-
  DeltaRules: the law's walk.
-/
set_option linter.unusedVariables false
set_option linter.unusedSimpArgs false
namespace Go.Proofs.YtomoemgoglghlaaDoor
open Go.RowKit Rep


/-- A call gives both parts' limbs; the bench has room still. -/
def GotBB (b : Nat) (W5 : World) (q r : Rat) (e : Ending) (W' : World) : Prop :=
  ∃ s z1 m1 k1 z2 m2 k2 t y1 n1 j1 y2 n2 j2, e = .returned (.agg #[.bool s, .slice z1 m1 k1, .slice z2 m2 k2, .bool t, .slice y1 n1 j1, .slice y2 n2 j2]) ∧ Hid (Room b W5 W') ∧ Hid (VQ q (s, (z1, m1, k1), (z2, m2, k2)) W') ∧ Hid (VQ r (t, (y1, n1, j1), (y2, n2, j2)) W')
theorem GivesQQ.gotBB {b : Nat} {W5 W W' : World} {o : Bool} {q r : Rat} {e : Ending} (h : GivesQQ b 1000 o q r W e W') (ho : o = false) (hR : Room b W5 W) : GotBB b W5 q r e W' := by
  subst ho
  obtain ⟨s, z1, m1, k1, z2, m2, k2, t, y1, n1, j1, y2, n2, j2, rfl, h1, h2, h3, h4⟩ := h
  exact ⟨s, z1, m1, k1, z2, m2, k2, t, y1, n1, j1, y2, n2, j2, rfl, Lib.hid ⟨grownBy_trans' hR.g h4.out, h3.out, hR.tab.bench hR.bench h4.out⟩, h1, h2⟩
section
variable {b : Nat} {W5 w : World} {xs us ys vs : Bool} {xa xb ua ub ya yb va vb : Option Addr} {xl xc xk xe ul uc uk ue yl yc yk ye vl vc vk ve : Nat} {q r q' r' : Rat}
theorem addBB (hR : Room b W5 w) (hx : VQ q (xs, (xa, xl, xc), (xb, xk, xe)) w) (hu : VQ r (us, (ua, ul, uc), (ub, uk, ue)) w) (hy : VQ q' (ys, (ya, yl, yc), (yb, yk, ye)) w) (hv : VQ r' (vs, (va, vl, vc), (vb, vk, ve)) w) (z1 : szQ q ≤ 40) (z2 : szQ r ≤ 40) (z3 : szQ q' ≤ 40) (z4 : szQ r' ≤ 40) :
    Calls Tryd.prog 8 #[.pointer (some ⟨b, 0, none⟩), .agg #[.bool xs, .slice xa xl xc, .slice xb xk xe, .bool us, .slice ua ul uc, .slice ub uk ue], .agg #[.bool ys, .slice ya yl yc, .slice yb yk ye, .bool vs, .slice va vl vc, .slice vb vk ve]] w (GotBB b W5 (q + q') (r + r')) :=
  (DelAdd hR.bench hR.tab hx hu hy hv (by omega) (by omega) (by omega) (by omega)).mono fun e W' hg => hg.gotBB (by rw [(ov_fits (m := 1000) (q := q + q') (by have := szQ_add q q'; omega)).1, (ov_fits (m := 1000) (q := r + r') (by have := szQ_add r r'; omega)).1]; rfl) hR
theorem subBB (hR : Room b W5 w) (hx : VQ q (xs, (xa, xl, xc), (xb, xk, xe)) w) (hu : VQ r (us, (ua, ul, uc), (ub, uk, ue)) w) (hy : VQ q' (ys, (ya, yl, yc), (yb, yk, ye)) w) (hv : VQ r' (vs, (va, vl, vc), (vb, vk, ve)) w) (z1 : szQ q ≤ 40) (z2 : szQ r ≤ 40) (z3 : szQ q' ≤ 40) (z4 : szQ r' ≤ 40) :
    Calls Tryd.prog 10 #[.pointer (some ⟨b, 0, none⟩), .agg #[.bool xs, .slice xa xl xc, .slice xb xk xe, .bool us, .slice ua ul uc, .slice ub uk ue], .agg #[.bool ys, .slice ya yl yc, .slice yb yk ye, .bool vs, .slice va vl vc, .slice vb vk ve]] w (GotBB b W5 (q - q') (r - r')) :=
  (DelSub hR.bench hR.tab hx hu hy hv (by omega) (by omega) (by omega) (by omega)).mono fun e W' hg => hg.gotBB (by rw [(ov_fits (m := 1000) (q := q - q') (by have := szQ_sub q q'; omega)).1, (ov_fits (m := 1000) (q := r - r') (by have := szQ_sub r r'; omega)).1]; rfl) hR
theorem scaleBB (hR : Room b W5 w) (hx : VQ q (xs, (xa, xl, xc), (xb, xk, xe)) w) (hu : VQ r (us, (ua, ul, uc), (ub, uk, ue)) w) (hy : VQ q' (ys, (ya, yl, yc), (yb, yk, ye)) w) (z1 : szQ q ≤ 40) (z2 : szQ r ≤ 40) (z3 : szQ q' ≤ 40) :
    Calls Tryd.prog 11 #[.pointer (some ⟨b, 0, none⟩), .agg #[.bool ys, .slice ya yl yc, .slice yb yk ye], .agg #[.bool xs, .slice xa xl xc, .slice xb xk xe, .bool us, .slice ua ul uc, .slice ub uk ue]] w (GotBB b W5 (q' * q) (q' * r)) :=
  (DelScale hR.bench hR.tab hy hx hu (by omega) (by omega) (by omega)).mono fun e W' hg => hg.gotBB (by rw [(ov_fits (m := 1000) (q := q' * q) (by have := szQ_mul q' q; omega)).1, (ov_fits (m := 1000) (q := q' * r) (by have := szQ_mul q' r; omega)).1]; rfl) hR
end
theorem cmpDQ_vals (q r q' r' : Rat) : cmpDQ q r q' r' = -1 ∨ cmpDQ q r q' r' = 0 ∨ cmpDQ q r q' r' = 1 := by
  unfold cmpDQ
  split
  · exact cmpQ_vals r r'
  · exact cmpQ_vals q q'
theorem cmpQ_plus (x y z : Rat) : cmpQ (x + z) (y + z) = cmpQ x y := by
  unfold cmpQ
  by_cases h1 : x < y <;> by_cases h2 : x = y <;> simp [h1, h2] <;> grind
theorem cmpDQ_plus (q r q' r' a b : Rat) : cmpDQ (q + a) (r + b) (q' + a) (r' + b) = cmpDQ q r q' r' := by unfold cmpDQ; rw [cmpQ_plus, cmpQ_plus]
theorem cmpDQ_turn (q r q' r' : Rat) : cmpDQ q' r' q r = -cmpDQ q r q' r' := by
  unfold cmpDQ
  rw [cmpQ_neg q' q, cmpQ_neg r' r]
  by_cases h : cmpQ q q' = 0 <;> simp [h]
theorem cq_lt {x y : Rat} : cmpQ x y = -1 ↔ x < y := by
  unfold cmpQ
  by_cases h1 : x < y
  · simp [h1]
  · by_cases h2 : x = y <;> simp [h1, h2]
theorem cq_eq {x y : Rat} : cmpQ x y = 0 ↔ x = y := by
  unfold cmpQ
  by_cases h1 : x < y
  · simp [h1]
    intro h
    rw [h] at h1
    exact Rat.lt_irrefl h1
  · by_cases h2 : x = y <;> simp [h1, h2]
theorem cq_gt {x y : Rat} : cmpQ x y = 1 ↔ y < x := by
  unfold cmpQ
  by_cases h1 : x < y
  · simp [h1]; exact Rat.not_lt.2 (Rat.le_of_lt h1)
  · by_cases h2 : x = y
    · subst h2; simp [Rat.lt_irrefl]
    · simp [h1, h2]; grind
theorem cmpQ_times (k x y : Rat) : cmpQ (k * x) (k * y) = cmpQ x y * cmpQ k 0 := by
  rcases cmpQ_vals k 0 with hk | hk | hk
  · have h1 : 0 < -k := by have := cq_lt.1 hk; grind
    rcases cmpQ_vals x y with h | h | h
    · have h3 := Rat.mul_lt_mul_of_pos_left (cq_lt.1 h) h1
      rw [hk, h]
      exact cq_gt.2 (by grind)
    · rw [hk, h, cq_eq.1 h]
      exact cq_eq.2 rfl
    · have h3 := Rat.mul_lt_mul_of_pos_left (cq_gt.1 h) h1
      rw [hk, h]
      exact cq_lt.2 (by grind)
  · rw [hk, cq_eq.1 hk, Rat.zero_mul, Rat.zero_mul, Int.mul_zero]
    exact cq_eq.2 rfl
  · have h1 : 0 < k := cq_gt.1 hk
    rcases cmpQ_vals x y with h | h | h
    · rw [hk, h]
      exact cq_lt.2 (Rat.mul_lt_mul_of_pos_left (cq_lt.1 h) h1)
    · rw [hk, h, cq_eq.1 h]
      exact cq_eq.2 rfl
    · rw [hk, h]
      exact cq_gt.2 (Rat.mul_lt_mul_of_pos_left (cq_gt.1 h) h1)
theorem cmpDQ_times (k q r q' r' : Rat) : cmpDQ (k * q) (k * r) (k * q') (k * r') = cmpDQ q r q' r' * cmpQ k 0 := by
  unfold cmpDQ
  rw [cmpQ_times, cmpQ_times]
  rcases cmpQ_vals k 0 with hk | hk | hk <;> rw [hk] <;> by_cases h : cmpQ q q' = 0 <;> simp [h]
theorem boxes4q (w : World) (v1 v2 v3 v4 : Array Value) (t1 t2 t3 t4 : TypeId) : ∃ W0, W0 = (((w.alloc (.cells v1 t1)).alloc (.cells v2 t2)).alloc (.cells v3 t3)).alloc (.cells v4 t4) ∧ Below w.heap.size w W0 ∧
    W0.heap[w.heap.size]? = some (.cells v1 t1 (0, 0)) ∧ W0.heap[w.heap.size + 1]? = some (.cells v2 t2 (0, 0)) ∧ W0.heap[w.heap.size + 1 + 1]? = some (.cells v3 t3 (0, 0)) ∧ W0.heap[w.heap.size + 1 + 1 + 1]? = some (.cells v4 t4 (0, 0)) ∧ W0.heap.size = w.heap.size + 1 + 1 + 1 + 1 := by
  obtain ⟨W1, h1, h2, h3, h4, h5, h6⟩ := boxes3 w v1 v2 v3 t1 t2 t3
  subst h1
  refine ⟨_, rfl, h2.alloc h2.size _, ?_, ?_, ?_, ?_, by simp⟩
  · rw [Below.heap_alloc _ _ _ (by simp; omega)]; exact h3
  · rw [Below.heap_alloc _ _ _ (by simp)]; exact h4
  · rw [Below.heap_alloc _ _ _ (by simp)]; exact h5
  · simpa using heap_alloc_new (((w.alloc (.cells v1 t1)).alloc (.cells v2 t2)).alloc (.cells v3 t3)) (.cells v4 t4)
end Go.Proofs.YtomoemgoglghlaaDoor

