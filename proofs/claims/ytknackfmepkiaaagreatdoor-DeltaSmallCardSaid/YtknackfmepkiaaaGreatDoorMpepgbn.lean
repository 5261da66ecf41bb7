/- By program out of: RefInt, RatOfP, SmLett, SmHeap, SmSmall, SmList. -/
import Derived.Test.YtknackfmepkiaaaGreatDoorMleicjm
import Derived.ArgAppend
import Derived.Test.YtknackfmepkiaaaGreatDoorMknfkeh
/-
  append onto a slice of one's own, told whether the block is new; the document's Int.
-/
set_option linter.unusedVariables false
set_option linter.unusedSimpArgs false
namespace Go.Proofs.YtknackfmepkiaaaGreatDoor
open Go.RowKit Rep

theorem set_take {l : List Value} {n : Nat} {v : Value} (h : n < l.length) : (l.set n v).take (n + 1) = l.take n ++ [v] := by
  apply List.ext_getElem?
  intro i
  rw [List.getElem?_take, List.getElem?_set]
  by_cases h1 : i < n
  · rw [List.getElem?_append_left (by rw [List.length_take]; omega), List.getElem?_take, if_pos (by omega), if_neg (by omega), if_pos h1]
  · by_cases h2 : i = n
    · subst h2
      rw [List.getElem?_append_right (by rw [List.length_take]; omega), List.length_take, Nat.min_eq_left (by omega)]
      simp [h]
    · rw [if_neg (by omega), List.getElem?_eq_none (by rw [List.length_append, List.length_take]; simp; omega)]
theorem Row.push {E : TypeId} {w : World} {g cap : Nat} {vs : List Value} (h : Row E w g cap vs) (hl : vs.length + 1 ≤ cap) (v : Value) : Row E (w.setCell ⟨g, vs.length, none⟩ v) g cap (vs ++ [v]) := by
  obtain ⟨cur, hh, hs, hle, ht⟩ := h
  refine ⟨cur.setIfInBounds vs.length v, ?_, by simp [hs], by simp; omega, ?_⟩
  · simp only [World.setCell, Array.getElem?_modify]
    simp [hh]
  · have hlt : vs.length < cur.toList.length := by simp only [Array.length_toList]; omega
    rw [Array.toList_setIfInBounds, List.length_append, List.length_singleton, set_take hlt, ht]
theorem wpList_append_new {P : Program} (w : World) {ops : Array Oper} {rest : List Oper} {o : Oper} {a : Act} {Q : Exit → Act → World → Prop} (hgd : o.guard = none) (s x : Operand) (t : TypeId)
    (ho : o.op = .call { callee := .builtin .append, args := #[s, x], argTypes := #[t, t] }) (e : TypeId) (z : Value) (bts : Nat) (ht : P.underlying t = some (.slice e))
    (hi : (P.info? e).map (fun i => (i.zero, i.size, i.bytes)) = some (some z, 1, bts)) (hz1 : z.cells.size = 1)
    (f : Nat → Value) (B : Nat) (aa : Option Addr) (n cap : Nat) (xs : List Nat) (hs : a.eval s = .slice aa n cap) (hown : OwnR e f B w aa cap xs) (hn : xs.length = n)
    (ax : Addr) (c d : Nat) (hx : a.eval x = .slice (some ax) 1 c) (hr : w.cell? ax = some (f d)) (h1 : (f d).oneCell' = true)
    (hmax : n + 1 ≤ maxLen) (hb : (n + 1) * bts ≤ 140737488355328)
    (h : ∀ g' cap' w', Row e w' g' cap' ((xs ++ [d]).map f) → cap' ≤ maxLen → w.grownBy w' (blk aa) → (blk aa = some g' ∨ w.heap.size ≤ g') → wpList P ops Q rest (a.put o.dst (.slice (some ⟨g', 0, none⟩) (n + 1) cap')) w') : wpList P ops Q (o :: rest) a w := by
  obtain ⟨i, h2, h3, h4, h5⟩ := info_parts hi
  have hcell : ∀ j u, [f d][j]? = some u → w.cell? (ax.add j) = some u := by
    intro j u hu
    rcases j with _ | j
    · simp only [List.getElem?_cons_zero, Option.some.injEq] at hu
      subst hu
      simpa [Addr.add] using hr
    · simp at hu
  have hone : ∀ u ∈ [f d], u.oneCell' = true := by simpa using h1
  have fin : ∀ v' w', w'.ownsRow w.heap.size e 1 v' (n + 1) (xs.map f ++ [f d]) → w.grownBy w' none → wpList P ops Q rest (a.put o.dst v') w' := by
    intro v' w' a1 a2
    obtain ⟨hl, ⟨e1, e2⟩ | ⟨g', cap', cur, rfl, hb', hh, hnc, hcm, hcs, htake⟩⟩ := a1
    · omega
    · refine h g' cap' w' ⟨cur, hh, by omega, by simp; omega, ?_⟩ hcm ⟨a2.os, a2.tape, a2.output, a2.size, fun k hk _ => a2.block k hk (by simp)⟩ (.inr hb')
      rw [List.map_append, List.length_append, List.length_map, hn]
      rw [Nat.mul_one] at htake
      exact htake
  obtain ⟨hc, ⟨rfl, rfl, rfl⟩ | ⟨g, rfl, hg, hrow⟩⟩ := hown
  · obtain rfl : n = 0 := by simpa using hn.symm
    exact wpList_append_grows w hgd s x t ho e i z 1 bts ht h2 h3 h4 h5 hz1 (by decide) none 0 0 [] hs (fun _ => ⟨rfl, rfl⟩) rfl (fun b hb => by cases hb) ax 1 c [f d] hx rfl hcell hone (by omega) hmax hb fin
  · have hlen : (xs.map f).length = n := by rw [List.length_map, hn]
    refine wpList_append_arg w hgd s x t ho e i z 1 bts ht h2 h3 h4 h5 hz1 (by decide) g 0 n cap (xs.map f) hs (by rw [hlen, Nat.mul_one]) (fun j u hu => by rw [Nat.zero_add]; exact hrow.cell j u hu) ax 1 c [f d] hx rfl hcell hone ?_ hmax hb ?_ (fun _ => fin)
    · intro hroom j hj
      obtain rfl : j = 0 := by simpa using hj
      obtain ⟨cur, hh, hcs, _, _⟩ := hrow
      refine ⟨?_, ?_⟩
      · simp only [World.cell?, hh, Nat.zero_add, Nat.mul_one, Nat.add_zero]
        rw [Array.getElem?_eq_getElem (by omega)]
        rfl
      · simp [World.frozen?, hh]
    · intro hroom
      have hp := hrow.push (by rw [hlen]; omega) (f d)
      rw [hlen] at hp
      have he : w.setCells g (0 + n * 1) [f d] = w.setCell ⟨g, n, none⟩ (f d) := by rw [Nat.zero_add, Nat.mul_one]; rfl
      rw [he]
      exact h g cap _ (by rw [List.map_append]; exact hp) hc (grownBy_set (grown_refl w _)) (.inl rfl)

/-- A small number. -/
def qI (n : Int) : Rat := mkQ (decide (n < 0)) n.natAbs 1
theorem qI_parts (n : Int) : ngQ (qI n) = decide (n < 0) ∧ mgQ (qI n) = n.natAbs ∧ (qI n).den = 1 := by
  obtain ⟨a, b⟩ := mkQ_cop (decide (n < 0)) (n := n.natAbs) (d := 1) (by omega) (Nat.gcd_one_right _)
  refine ⟨?_, a, b⟩
  unfold qI
  rw [mkQ_ng _ _ (by omega)]
  split
  · rename_i h; rw [decide_eq_false (by omega)]
  · rfl
/-- Some of the digits are there. -/
structure IntAt (w : World) (N : Nat) (neg : Bool) (k : Nat) (a : Option Addr) (c : Nat) (O : List Nat) (wr : World) : Prop where
  at' : wr.heap[w.heap.size + 1 + 1 + 1]? = some (.cells #[.bool neg, .slice a O.length c, .slice (some ⟨w.heap.size + 1 + 1, 0, none⟩) 1 1] 38 (0, 0))
  dig : D N = O ++ D k
  own : OwnR 3 i64v (w.heap.size + 1) wr a c O
  ne : blk a ≠ some (w.heap.size + 1 + 1 + 1)
  one : DAt wr (some ⟨w.heap.size + 1 + 1, 0, none⟩) 1 1
  ne1 : blk a ≠ some (w.heap.size + 1 + 1)
  below : Below w.heap.size w wr
  res : BlankD wr w.heap.size
theorem IntAt.start (w : World) (N : Nat) (neg : Bool) : IntAt w N neg N (some ⟨w.heap.size + 1, 0, none⟩) 0 []
    ((((w.alloc (.cells #[.bool false, .slice none 0 0, .slice none 0 0] 38)).alloc (.cells #[] 3)).alloc (.cells #[.int .i64 1] 3)).alloc (.cells #[.bool neg, .slice (some ⟨w.heap.size + 1, 0, none⟩) 0 0, .slice (some ⟨w.heap.size + 1 + 1, 0, none⟩) 1 1] 38)) := by
  refine ⟨?_, rfl, ⟨by simp [maxLen], .inr ⟨_, rfl, Nat.le_refl _, ?_⟩⟩, by simp [blk], ⟨?_, by decide, by simp [maxLen]⟩, by simp [blk], ?_, ?_⟩
  · have := heap_alloc_new (((w.alloc (.cells #[.bool false, .slice none 0 0, .slice none 0 0] 38)).alloc (.cells #[] 3)).alloc (.cells #[.int .i64 1] 3)) (.cells #[.bool neg, .slice (some ⟨w.heap.size + 1, 0, none⟩) 0 0, .slice (some ⟨w.heap.size + 1 + 1, 0, none⟩) 1 1] 38)
    simpa using this
  · have := ((Row.new (E := 3) (w.alloc (.cells #[.bool false, .slice none 0 0, .slice none 0 0] 38)) #[]).alloc (.cells #[.int .i64 1] 3)).alloc (.cells #[.bool neg, .slice (some ⟨w.heap.size + 1, 0, none⟩) 0 0, .slice (some ⟨w.heap.size + 1 + 1, 0, none⟩) 1 1] 38)
    simpa using this
  · have h := (Row.new (E := 3) ((w.alloc (.cells #[.bool false, .slice none 0 0, .slice none 0 0] 38)).alloc (.cells #[] 3)) #[.int .i64 1]).alloc (.cells #[.bool neg, .slice (some ⟨w.heap.size + 1, 0, none⟩) 0 0, .slice (some ⟨w.heap.size + 1 + 1, 0, none⟩) 1 1] 38)
    simpa [i64v, D_one] using h.reads0
  · exact ((((Below.refl _ _).alloc (Nat.le_refl _) _).alloc (by simp) _).alloc (by simp; omega) _).alloc (by simp; omega) _
  · unfold BlankD
    rw [Below.heap_alloc _ _ _ (by simp; omega), Below.heap_alloc _ _ _ (by simp; omega), Below.heap_alloc _ _ _ (by simp)]
    exact heap_alloc_new w _
theorem IntAt.next {w wr w' : World} {N k d k' c g' cap' : Nat} {neg : Bool} {a : Option Addr} {O : List Nat} {ob : Obj} (h : IntAt w N neg k a c O wr) (hk : 0 < k) (hd : d = k % 10) (hk' : k' = k / 10)
    (hrow : Row 3 w' g' cap' ((O ++ [d]).map i64v)) (hcap : cap' ≤ maxLen) (hgrow : (wr.alloc ob).grownBy w' (blk a)) (hg' : blk a = some g' ∨ (wr.alloc ob).heap.size ≤ g') :
    IntAt w N neg k' (some ⟨g', 0, none⟩) cap' (O ++ [d]) (w'.setCell ⟨w.heap.size + 1 + 1 + 1, 1, none⟩ (.slice (some ⟨g', 0, none⟩) (O.length + 1) cap')) ∧
    w'.cell? ⟨w.heap.size + 1 + 1 + 1, 1, none⟩ = some (.slice a O.length c) ∧ w'.frozen? ⟨w.heap.size + 1 + 1 + 1, 1, none⟩ = false := by
  have hlt : w.heap.size + 1 + 1 + 1 < wr.heap.size := (Array.getElem?_eq_some_iff.1 h.at').1
  have hba : Below wr.heap.size wr (wr.alloc ob) := (Below.refl _ _).alloc (Nat.le_refl _) _
  have h1 : w'.heap[w.heap.size + 1 + 1 + 1]? = some (.cells #[.bool neg, .slice a O.length c, .slice (some ⟨w.heap.size + 1 + 1, 0, none⟩) 1 1] 38 (0, 0)) :=
    (hgrow.block _ (by simp; omega) (Ne.symm h.ne)).trans ((hba.block _ hlt).trans h.at')
  have g1 : g' ≠ w.heap.size + 1 + 1 + 1 := by
    rcases hg' with e | e
    · intro h2; rw [h2] at e; exact h.ne e
    · simp at e; omega
  have g2 : g' ≠ w.heap.size + 1 + 1 := by
    rcases hg' with e | e
    · intro h2; rw [h2] at e; exact h.ne1 e
    · simp at e; omega
  have g3 : w.heap.size + 1 ≤ g' := by
    rcases hg' with e | e
    · exact h.own.blk_ge e
    · simp at e; omega
  have hs := grownBy_set (grown_refl w' (some (w.heap.size + 1 + 1 + 1))) (i := 1) (u := .slice (some ⟨g', 0, none⟩) (O.length + 1) cap')
  have hbl : blk a ≠ some w.heap.size := fun e => by have := h.own.blk_ge e; omega
  refine ⟨⟨?_, ?_, ⟨hcap, .inr ⟨g', rfl, g3, hrow.other _ _ (by simpa using g1)⟩⟩, by simpa [blk] using g1, ?_, by simpa [blk] using g2, ?_, ?_⟩, ?_, ?_⟩
  · simp [World.setCell, Array.getElem?_modify, h1]
  · rw [h.dig, D_cons hk, hd, hk', List.append_assoc]; rfl
  · refine ⟨?_, h.one.2⟩
    have r1 := (h.one.1.kept hba).grown hgrow (.inr fun g off e => by cases e; exact Ne.symm h.ne1)
    exact r1.grown hs (.inr fun g off e => by cases e; simp)
  · exact ((h.below.trans (hba.mono h.below.size)).grown hgrow (by simp; have := h.below.size; omega) (fun k hk => by have := h.own.blk_ge hk; omega)).setCell (by simp; omega) _
  · have r := h.res
    unfold BlankD at r ⊢
    rw [Below.heap_setCell _ _ _ _ (by simp; omega)]
    exact (hgrow.block _ (by simp; omega) (Ne.symm hbl)).trans ((hba.block _ (by omega)).trans r)
  · simp [World.cell?, h1]
  · simp [World.frozen?, h1]
theorem IntAt.ends {w wr : World} {N c : Nat} {neg : Bool} {a : Option Addr} {O : List Nat} (h : IntAt w N neg 0 a c O wr) :
    O.length = (D N).length ∧ GivesDR neg N 1 w (.returned (ratV neg (.slice a O.length c) (.slice (some ⟨w.heap.size + 1 + 1, 0, none⟩) 1 1))) (set3 wr w.heap.size neg (.slice a O.length c) (.slice (some ⟨w.heap.size + 1 + 1, 0, none⟩) 1 1)) := by
  have e : D N = O := by rw [h.dig, D_zero, List.append_nil]
  have hle := h.own.le
  have hat : DAt wr a c N := ⟨by rw [e]; exact h.own.reads, by rw [e]; exact hle, h.own.1⟩
  refine ⟨by rw [e], a, c, _, 1, by rw [e, D_one]; rfl, hat.set3 h.res _ _ _, h.one.set3 h.res _ _ _, set3_below h.below (Nat.le_refl _)⟩

set_option maxRecDepth 100000 in
set_option maxHeartbeats 4000000 in
theorem IntD_any (n : Int) (w : World) (h1 : -4611686018427387904 < n) (h2 : n ≤ 9223372036854775807) : Calls Tryz.prog 42 #[.int .i64 n] w (GivesDQ (qI n) w) := by
  obtain ⟨N, hN⟩ : ∃ N : Nat, N = n.natAbs := ⟨_, rfl⟩
  have HQ : Hid (∀ e w', GivesDR (decide (n < 0)) N 1 w e w' → GivesDQ (qI n) w e w') := Lib.hid fun e w' hg => by
    obtain ⟨a, b, c⟩ := qI_parts n
    exact hg.q a (by rw [b, hN]) c
  have HS := Lib.hid (IntAt.start w N (decide (n < 0)))
  have hNb : N ≤ 9223372036854775807 := by omega
  rcases Int.lt_or_le n 0 with hneg | hneg
  · have hd : decide (n < 0) = true := decide_eq_true hneg
    rw [hd] at HS HQ
    have hw : -n = (N : Int) := by omega
    clear hN
    go_enter Tryz.func42, Tryz.ntmps42
    go_wp2_with fail
    go_loopw [0] (fun v wr => ∃ (k : Nat) (a : Option Addr) (c : Nat) (O : List Nat), v = .int .i64 k ∧ k ≤ N ∧ IntAt w N true k a c O wr) (fun v _ => (intOf v).toNat)
    case atStart => exact ⟨N, _, 0, [], rfl, Nat.le_refl _, HS.out⟩
    case round =>
      obtain ⟨k, a, c, O, rfl, hkN, hin⟩ := hrel
      clear HS
      rcases Nat.eq_zero_or_pos k with h0 | h0
      · subst h0
        obtain ⟨m0, m1, m2, _⟩ := cells3 hin.at'
        obtain ⟨r0, r1, r2, q0, q1, q2⟩ := hin.res.cells
        have HE := Lib.hid (HQ.out _ _ hin.ends.2)
        clear hin HQ
        go_wp2_with fail
        exact bodyPost_ret (v := ratV true (.slice a O.length c) (.slice (some ⟨w.heap.size + 1 + 1, 0, none⟩) 1 1)) (by simp [results, Tryz.results42, go_sem, ratV, r0, r1, r2]) rfl HE.out
      · have h0i : (0 : Int) < (k : Int) := by omega
        have h0d : decide ((0 : Int) < (k : Int)) = true := decide_eq_true h0i
        have h0e : decide (0 < k) = true := decide_eq_true h0
        obtain ⟨m0, m1, m2, _⟩ := cells3 hin.at'
        obtain ⟨d, hd⟩ : ∃ d, d = k % 10 := ⟨_, rfl⟩
        obtain ⟨k', hk'⟩ : ∃ k', k' = k / 10 := ⟨_, rfl⟩
        have e1 : (k : Int) % 10 = (d : Int) := by omega
        have e2 : (k : Int) / 10 = (k' : Int) := by omega
        have hOl : O.length ≤ 100 := by
          have h := congrArg List.length hin.dig
          rw [List.length_append] at h
          have := (D_len N 100).2 (by have : (9223372036854775807 : Nat) < 10 ^ 100 := by decide
                                      omega)
          omega
        have hlt := (Array.getElem?_eq_some_iff.1 hin.at').1
        have ho1 := hin.own.kept ((Below.refl wr.heap.size wr).alloc (Nat.le_refl _) (.cells #[.int .i64 (d : Int)] 3))
        have hcell : (wr.alloc (.cells #[.int .i64 (d : Int)] 3)).cell? ⟨wr.heap.size, 0, none⟩ = some (i64v d) := (Row.new (E := 3) wr #[.int .i64 (d : Int)]).cell 0 _ rfl
        have HIN := Lib.hid hin
        have HD := Lib.hid hd
        have HK := Lib.hid hk'
        clear hin hd hk'
        go_wp2_with (first | (at_builtin; refine wpList_append_new _ rfl (.tmp 16) (.tmp 19) 36 rfl 3 (.int .i64 0) 8 Tryz.underlying36 info_int rfl i64v (w.heap.size + 1) a _ _ O rfl ho1 rfl ⟨wr.heap.size, 0, none⟩ 1 d rfl hcell rfl (by unfold maxLen; omega) (by omega) ?_; intro g' cap' w' hrow' hcap hgrow hg'; obtain ⟨hn1, hn2, hn3⟩ := HIN.out.next h0 HD.out HK.out hrow' hcap hgrow hg'; have HN := Lib.hid hn1; clear hn1 hrow' hgrow hg' ho1 hcell m0 m1 m2) | fail)
        go_roundw
        case rel => exact ⟨k', some ⟨g', 0, none⟩, cap', O ++ [d], by go_num, by have := HK.out; omega, HN.out⟩
        case measure => have := HK.out; simp [intOf] <;> omega
  · have hd : decide (n < 0) = false := decide_eq_false (by omega)
    rw [hd] at HS HQ
    obtain rfl : n = (N : Int) := by omega
    clear hN
    go_enter Tryz.func42, Tryz.ntmps42
    go_wp2_with fail
    go_loopw [0] (fun v wr => ∃ (k : Nat) (a : Option Addr) (c : Nat) (O : List Nat), v = .int .i64 k ∧ k ≤ N ∧ IntAt w N false k a c O wr) (fun v _ => (intOf v).toNat)
    case atStart => exact ⟨N, _, 0, [], rfl, Nat.le_refl _, HS.out⟩
    case round =>
      obtain ⟨k, a, c, O, rfl, hkN, hin⟩ := hrel
      clear HS
      rcases Nat.eq_zero_or_pos k with h0 | h0
      · subst h0
        obtain ⟨m0, m1, m2, _⟩ := cells3 hin.at'
        obtain ⟨r0, r1, r2, q0, q1, q2⟩ := hin.res.cells
        have HE := Lib.hid (HQ.out _ _ hin.ends.2)
        clear hin HQ
        go_wp2_with fail
        exact bodyPost_ret (v := ratV false (.slice a O.length c) (.slice (some ⟨w.heap.size + 1 + 1, 0, none⟩) 1 1)) (by simp [results, Tryz.results42, go_sem, ratV, r0, r1, r2]) rfl HE.out
      · have h0i : (0 : Int) < (k : Int) := by omega
        have h0d : decide ((0 : Int) < (k : Int)) = true := decide_eq_true h0i
        have h0e : decide (0 < k) = true := decide_eq_true h0
        obtain ⟨m0, m1, m2, _⟩ := cells3 hin.at'
        obtain ⟨d, hd⟩ : ∃ d, d = k % 10 := ⟨_, rfl⟩
        obtain ⟨k', hk'⟩ : ∃ k', k' = k / 10 := ⟨_, rfl⟩
        have e1 : (k : Int) % 10 = (d : Int) := by omega
        have e2 : (k : Int) / 10 = (k' : Int) := by omega
        have hOl : O.length ≤ 100 := by
          have h := congrArg List.length hin.dig
          rw [List.length_append] at h
          have := (D_len N 100).2 (by have : (9223372036854775807 : Nat) < 10 ^ 100 := by decide
                                      omega)
          omega
        have hlt := (Array.getElem?_eq_some_iff.1 hin.at').1
        have ho1 := hin.own.kept ((Below.refl wr.heap.size wr).alloc (Nat.le_refl _) (.cells #[.int .i64 (d : Int)] 3))
        have hcell : (wr.alloc (.cells #[.int .i64 (d : Int)] 3)).cell? ⟨wr.heap.size, 0, none⟩ = some (i64v d) := (Row.new (E := 3) wr #[.int .i64 (d : Int)]).cell 0 _ rfl
        have HIN := Lib.hid hin
        have HD := Lib.hid hd
        have HK := Lib.hid hk'
        clear hin hd hk'
        go_wp2_with (first | (at_builtin; refine wpList_append_new _ rfl (.tmp 16) (.tmp 19) 36 rfl 3 (.int .i64 0) 8 Tryz.underlying36 info_int rfl i64v (w.heap.size + 1) a _ _ O rfl ho1 rfl ⟨wr.heap.size, 0, none⟩ 1 d rfl hcell rfl (by unfold maxLen; omega) (by omega) ?_; intro g' cap' w' hrow' hcap hgrow hg'; obtain ⟨hn1, hn2, hn3⟩ := HIN.out.next h0 HD.out HK.out hrow' hcap hgrow hg'; have HN := Lib.hid hn1; clear hn1 hrow' hgrow hg' ho1 hcell m0 m1 m2) | fail)
        go_roundw
        case rel => exact ⟨k', some ⟨g', 0, none⟩, cap', O ++ [d], by go_num, by have := HK.out; omega, HN.out⟩
        case measure => have := HK.out; simp [intOf] <;> omega
end Go.Proofs.YtknackfmepkiaaaGreatDoor


/-
  ratio.Of.
-/
set_option linter.unusedVariables false
set_option linter.unusedSimpArgs false
namespace Go.Proofs.YtknackfmepkiaaaGreatDoor
open Go.RowKit Rep


theorem denN_one : denN 1 = 0 := rfl
/-- A result of limbs is written into its block. -/
theorem fin_I {w W0 w' : World} {n : Int} {t : Bool} {a : Option Addr} {c : Nat} (hB0 : Below w.heap.size w W0) (b3 : Blank W0 w.heap.size) (ht : decide (n < 0) = t) (hd : NumAt w' a c n.natAbs) (hb : Below W0.heap.size W0 w') :
    NewQ (qI n) w (.returned (ratV t (.slice a (L n.natAbs).length c) (.slice none 0 0))) (set3 w' w.heap.size t (.slice a (L n.natAbs).length c) (.slice none 0 0)) := by
  obtain ⟨e1, e2, e3⟩ := qI_parts n
  have hat : AtQ w' a c none 0 (qI n) := ⟨by rw [e2]; exact hd, by rw [e3, denN_one]; exact NumAt.zero w'⟩
  refine ⟨a, c, none, 0, ?_, hat.set3 (b3.kept hb).rat _ _ _, set3_below (hB0.trans (hb.mono hB0.size)) (Nat.le_refl _)⟩
  unfold qV
  rw [e1, e2, e3, ht]
  rfl

set_option maxRecDepth 100000 in
set_option maxHeartbeats 2000000 in
theorem OfP_any (n : Int) (w : World) (h1 : -9223372036854775808 ≤ n) (h2 : n ≤ 9223372036854775807) : Calls Tryz.prog 16 #[.int .i64 n] w (NewQ (qI n) w) := by
  obtain ⟨W0, hW0⟩ : ∃ W0, W0 = w.alloc (.cells #[.bool false, .slice none 0 0, .slice none 0 0] 30) := ⟨_, rfl⟩
  have hB0 : Below w.heap.size w W0 := by rw [hW0]; exact (Below.refl _ _).alloc (Nat.le_refl _) _
  have hr0 : Blank W0 w.heap.size := by rw [hW0]; exact heap_alloc_new w _
  obtain ⟨N, hN⟩ : ∃ N : Nat, N = n.natAbs := ⟨_, rfl⟩
  have HO := Lib.hid (of_any N (by omega) W0)
  have HF : Hid (∀ t a c w', decide (n < 0) = t → NumAt w' a c N → Below W0.heap.size W0 w' → NewQ (qI n) w (.returned (ratV t (.slice a (L N).length c) (.slice none 0 0))) (set3 w' w.heap.size t (.slice a (L N).length c) (.slice none 0 0))) := Lib.hid fun t a c w' ht hd hb => by
    subst hN
    exact fin_I hB0 hr0 ht hd hb
  have HK : Hid (∀ w', Below W0.heap.size W0 w' → Blank w' w.heap.size) := Lib.hid fun w' h => hr0.kept h
  have HW0 := Lib.hid hW0
  clear hB0 hr0 hW0
  rcases Int.lt_or_le n 0 with hneg | hneg
  · have hd : decide (n < 0) = true := decide_eq_true hneg
    have HD := Lib.hid hd
    have hu : IntKind.u64.wrap (IntKind.i64.wrap (-n)) = (N : Int) := by
      rcases Int.lt_or_le (-9223372036854775808) n with h | h
      · rw [IntWalk.i64_in _ (by omega)]
        rw [IntWalk.u64_in _ (by omega)]
        omega
      · obtain rfl : n = -9223372036854775808 := by omega
        rw [hN]
        decide
    clear hN
    by_cases hmin : n = -9223372036854775808
    · subst hmin
      have hN2 : N = 9223372036854775808 := by have : ((9223372036854775808 : Int)) = (N : Int) := hu; omega
      subst hN2
      clear hu
      go_enter Tryz.func16, Tryz.ntmps16
      go_wp2_with fail
      rw [← HW0.out, show IntKind.u64.wrap (wrap64 9223372036854775808) = ((9223372036854775808 : Nat) : Int) by kernel_rfl]
      refine HO.out.mono ?_
      rintro e w2 ⟨a, c, rfl, hd2, hb2⟩
      obtain ⟨m0, m1, m2, n0, n1, n2⟩ := (HK.out _ hb2).cells
      have HE := Lib.hid (HF.out true a c w2 HD.out hd2 hb2)
      clear hd2 hb2 HO HF HK HW0
      generalize (L 9223372036854775808).length = len at *
      go_wp2_with fail
      exact bodyPost_ret (v := ratV true (.slice a len c) (.slice none 0 0)) (by simp [results, Tryz.results16, go_sem, ratV, m0, m1, m2]) rfl HE.out
    · have hw : -n = (N : Int) := by
        rw [IntWalk.i64_in _ (by omega), IntWalk.u64_in _ (by omega)] at hu
        exact hu
      have hNb : N ≤ 9223372036854775807 := by omega
      clear hu hmin
      go_enter Tryz.func16, Tryz.ntmps16
      go_wp2_with fail
      rw [← HW0.out]
      refine HO.out.mono ?_
      rintro e w2 ⟨a, c, rfl, hd2, hb2⟩
      obtain ⟨m0, m1, m2, n0, n1, n2⟩ := (HK.out _ hb2).cells
      have HE := Lib.hid (HF.out true a c w2 HD.out hd2 hb2)
      clear hd2 hb2 HO HF HK HW0
      generalize (L N).length = len at *
      go_wp2_with fail
      exact bodyPost_ret (v := ratV true (.slice a len c) (.slice none 0 0)) (by simp [results, Tryz.results16, go_sem, ratV, m0, m1, m2]) rfl HE.out
  · have hd : decide (n < 0) = false := decide_eq_false (by omega)
    have HD := Lib.hid hd
    obtain rfl : n = (N : Int) := by omega
    have hNb : N ≤ 9223372036854775807 := by omega
    clear hN
    go_enter Tryz.func16, Tryz.ntmps16
    go_wp2_with fail
    rw [← HW0.out]
    refine HO.out.mono ?_
    rintro e w2 ⟨a, c, rfl, hd2, hb2⟩
    obtain ⟨m0, m1, m2, n0, n1, n2⟩ := (HK.out _ hb2).cells
    have HE := Lib.hid (HF.out false a c w2 HD.out hd2 hb2)
    clear hd2 hb2 HO HF HK HW0
    generalize (L N).length = len at *
    go_wp2_with fail
    exact bodyPost_ret (v := ratV false (.slice a len c) (.slice none 0 0)) (by simp [results, Tryz.results16, go_sem, ratV, m0, m1, m2]) rfl HE.out

end Go.Proofs.YtknackfmepkiaaaGreatDoor


/-
  A pair's letters; the states of Small's loops.
-/
set_option linter.unusedVariables false
set_option linter.unusedSimpArgs false
namespace Go.Proofs.YtknackfmepkiaaaGreatDoor
open Go.RowKit Rep


theorem pair_letters {b : Nat} {w : World} {a : Option Addr} {c : Nat} {ts : List HP} {F : HP → PQ} (hp : PairsIn w a c ts) (hf : ∀ p ∈ ts, VP w p (F p)) (hb : Bench w b 1000 false) (k : Nat) (hk : k < ts.length) :
    ∃ g off xs xa xl xc xb xk xe us ua ul uc ub uk ue ys ya yl yc yb yk ye vs va vl vc vb vk ve, a = some ⟨g, off, none⟩ ∧ (∀ W, Room b w W → (W.cell? ⟨g, off + k * 12, none⟩ = some (.bool xs) ∧ W.cell? ⟨g, off + k * 12 + 1, none⟩ = some (.slice xa xl xc) ∧ W.cell? ⟨g, off + k * 12 + 2, none⟩ = some (.slice xb xk xe) ∧ W.cell? ⟨g, off + k * 12 + 3, none⟩ = some (.bool us) ∧ W.cell? ⟨g, off + k * 12 + 4, none⟩ = some (.slice ua ul uc) ∧ W.cell? ⟨g, off + k * 12 + 5, none⟩ = some (.slice ub uk ue) ∧ W.cell? ⟨g, off + k * 12 + 6, none⟩ = some (.bool ys) ∧ W.cell? ⟨g, off + k * 12 + 7, none⟩ = some (.slice ya yl yc) ∧ W.cell? ⟨g, off + k * 12 + 8, none⟩ = some (.slice yb yk ye) ∧ W.cell? ⟨g, off + k * 12 + 9, none⟩ = some (.bool vs) ∧ W.cell? ⟨g, off + k * 12 + 10, none⟩ = some (.slice va vl vc) ∧ W.cell? ⟨g, off + k * 12 + 11, none⟩ = some (.slice vb vk ve))) ∧
      (∀ W, Room b w W → (VQ (F ts[k]).a (xs, (xa, xl, xc), (xb, xk, xe)) W ∧ VQ (F ts[k]).b (us, (ua, ul, uc), (ub, uk, ue)) W ∧ VQ (F ts[k]).e (ys, (ya, yl, yc), (yb, yk, ye)) W ∧ VQ (F ts[k]).f (vs, (va, vl, vc), (vb, vk, ve)) W)) ∧ OkP (F ts[k]) := by
  have hm : ts[k] ∈ ts := List.getElem_mem hk
  have hv := hf _ hm
  rcases hp.cells with h0 | ⟨g, off, rfl, h1⟩
  · rw [h0] at hk; simp at hk
  · have h2 := fun W (hr : Room b w W) => (hp.room hb hr).cells
    refine ⟨g, off, _, _, _, _, _, _, _, _, _, _, _, _, _, _, _, _, _, _, _, _, _, _, _, _, _, _, _, _, rfl, fun W hr => ?_, fun W hr => ⟨hr.vq hb hv.a, hr.vq hb hv.b, hr.vq hb hv.e, hr.vq hb hv.f⟩, hv.ok⟩
    rcases h2 W hr with h3 | ⟨g', off', e, h4⟩
    · rw [h3] at hk; simp at hk
    · cases e
      exact h4 k ts[k] (List.getElem?_eq_getElem hk)
theorem qI_one : qI 1 = 1 := by unfold qI mkQ; decide +kernel
theorem qI_zero : qI 0 = 0 := by unfold qI mkQ; decide +kernel
theorem of_one (W : World) : Calls Tryz.prog 16 #[.int .i64 1] W (GotQ W 1) := by
  have := (OfP_any 1 W (by omega) (by omega)).mono fun e W' hg => hg.got (Below.refl W.heap.size W)
  rwa [qI_one] at this
theorem int_one (W : World) : Calls Tryz.prog 42 #[.int .i64 1] W (GotD W 1) := by
  have := (IntD_any 1 W (by omega) (by omega)).mono fun e W' hg => hg.got (Below.refl W.heap.size W)
  rwa [qI_one] at this
theorem int_zero (W : World) : Calls Tryz.prog 42 #[.int .i64 0] W (GotD W 0) := by
  have := (IntD_any 0 W (by omega) (by omega)).mono fun e W' hg => hg.got (Below.refl W.heap.size W)
  rwa [qI_zero] at this
/-- How far the loop has come. -/
structure LstAt (b : Nat) (W0 : World) (g : Nat) (q : Rat) (v : RawR) (W : World) : Prop where
  room : Room b W0 W
  lies : LiesQ v g W
  v : VQ q v W
theorem LstAt.step {b g : Nat} {W0 W W' : World} {q : Rat} {v : RawR} (h : LstAt b W0 g q v W) (hr : Room b W W') (hne : g ≠ b) : LstAt b W0 g q v W' := ⟨h.room.trans hr, h.lies.room hr hne, hr.vq h.room.bench h.v⟩
theorem LstAt.kept {b g : Nat} {W0 W W' : World} {q : Rat} {v : RawR} (h : LstAt b W0 g q v W) (hb : Below W.heap.size W W') : LstAt b W0 g q v W' := ⟨h.room.kept hb, h.lies.kept hb, h.v.kept hb⟩
theorem LstAt.turn {b g : Nat} {W0 W : World} {q q' : Rat} {v u : RawR} (h : LstAt b W0 g q v W) (hu : VQ q' u W) (hg : W0.heap.size ≤ g) (hne : g ≠ b) : LstAt b W0 g q' u (set3 W g u.1 (.slice u.2.1.1 u.2.1.2.1 u.2.1.2.2) (.slice u.2.2.1 u.2.2.2.1 u.2.2.2.2)) :=
  ⟨h.room.set3 h.lies.no hg hne _ _ _, h.lies.over u, hu.set3R h.lies.no _ _ _⟩
structure DstAt (W0 : World) (g : Nat) (q : Rat) (v : RawR) (W : World) : Prop where
  below : Below W0.heap.size W0 W
  lies : LiesD v g W
  v : VD q v W
theorem DstAt.kept {g : Nat} {W0 W W' : World} {q : Rat} {v : RawR} (h : DstAt W0 g q v W) (hb : Below W.heap.size W W') : DstAt W0 g q v W' := ⟨h.below.trans (hb.mono h.below.size), h.lies.kept hb, h.v.kept hb⟩
theorem DstAt.turn {g : Nat} {W0 W : World} {q q' : Rat} {v u : RawR} (h : DstAt W0 g q v W) (hu : VD q' u W) (hg : W0.heap.size ≤ g) : DstAt W0 g q' u (set3 W g u.1 (.slice u.2.1.1 u.2.1.2.1 u.2.1.2.2) (.slice u.2.2.1 u.2.2.2.1 u.2.2.2.2)) :=
  ⟨set3_below h.below hg, h.lies.over u, hu.set3R h.lies.no _ _ _⟩
/-- Two blocks of six cells that float. -/
structure P6At (b : Nat) (W5 : World) (X Y : Array Value) (i : Nat × Nat) (W : World) : Prop where
  x : W.heap[i.1]? = some (.cells X 32 (0, 0))
  y : W.heap[i.2]? = some (.cells Y 32 (0, 0))
  room : Room b W5 W
  gx : W5.heap.size ≤ i.1
  gy : W5.heap.size ≤ i.2
theorem P6At.endA {b : Nat} {W5 : World} {X Y : Array Value} (hR : Room b W5 W5) : P6At b W5 X Y (W5.heap.size, W5.heap.size + 1) ((W5.alloc (.cells X 32)).alloc (.cells Y 32)).drew := by
  obtain ⟨_, rfl, hb, h1, h2, hs⟩ := boxes2 W5 X Y 32 32
  exact ⟨h1, h2, hR.kept (Below.drewN' hb 1), Nat.le_refl _, Nat.le_succ _⟩
theorem P6At.endB {b : Nat} {W5 : World} {X Y : Array Value} (hR : Room b W5 W5) : P6At b W5 X Y (W5.heap.size + 1, W5.heap.size) ((W5.alloc (.cells Y 32)).alloc (.cells X 32)).drew := by
  obtain ⟨_, rfl, hb, h1, h2, hs⟩ := boxes2 W5 Y X 32 32
  exact ⟨h2, h1, hR.kept (Below.drewN' hb 1), Nat.le_succ _, Nat.le_refl _⟩
theorem cells12 {W : World} {r : Nat} {v0 v1 v2 v3 v4 v5 v6 v7 v8 v9 v10 v11 : Value} {t : TypeId} (h : W.heap[r]? = some (.cells #[v0, v1, v2, v3, v4, v5, v6, v7, v8, v9, v10, v11] t (0, 0))) :
    W.cell? ⟨r, 0, none⟩ = some v0 ∧ W.cell? ⟨r, 1, none⟩ = some v1 ∧ W.cell? ⟨r, 2, none⟩ = some v2 ∧ W.cell? ⟨r, 3, none⟩ = some v3 ∧ W.cell? ⟨r, 4, none⟩ = some v4 ∧ W.cell? ⟨r, 5, none⟩ = some v5 ∧ W.cell? ⟨r, 6, none⟩ = some v6 ∧ W.cell? ⟨r, 7, none⟩ = some v7 ∧ W.cell? ⟨r, 8, none⟩ = some v8 ∧ W.cell? ⟨r, 9, none⟩ = some v9 ∧ W.cell? ⟨r, 10, none⟩ = some v10 ∧ W.cell? ⟨r, 11, none⟩ = some v11 := by
  refine ⟨?_, ?_, ?_, ?_, ?_, ?_, ?_, ?_, ?_, ?_, ?_, ?_⟩ <;> simp [World.cell?, h]
end Go.Proofs.YtknackfmepkiaaaGreatDoor


/-
  New blocks.
-/
set_option linter.unusedVariables false
set_option linter.unusedSimpArgs false
namespace Go.Proofs.YtknackfmepkiaaaGreatDoor
open Go.RowKit Rep


theorem heap_alloc_first (w : World) (o o' : Obj) : ((w.alloc o).alloc o').drew.heap[w.heap.size]? = some o := by
  show ((w.alloc o).alloc o').heap[w.heap.size]? = some o
  rw [Below.heap_alloc _ _ _ (by simp)]
  exact heap_alloc_new w o
theorem heap_alloc_scnd (w : World) (o o' : Obj) : ((w.alloc o).alloc o').heap[w.heap.size + 1]? = some o' := by
  have := heap_alloc_new (w.alloc o) o'
  simpa using this
end Go.Proofs.YtknackfmepkiaaaGreatDoor


/-
  delta.Small.
-/
set_option linter.unusedVariables false
set_option linter.unusedSimpArgs false
namespace Go.Proofs.YtknackfmepkiaaaGreatDoor
open Go.RowKit Rep


set_option maxRecDepth 100000 in
set_option maxHeartbeats 16000000 in
theorem SmallPP {b : Nat} {W5 w : World} {a : Option Addr} {c : Nat} {ts : List HP} {F : HP → PQ} (hp : PairsIn w a c ts) (hf : ∀ p ∈ ts, VP w p (F p)) (hR5 : Room b W5 w) (hn : ts.length ≤ 1000) :
    Calls Tryz.prog 10 #[.pointer (some ⟨b, 0, none⟩), .slice a ts.length c] w (GotB b W5 (smallQ (ts.map F))) := by
  obtain ⟨W0, hW0⟩ : ∃ W0, W0 = w.alloc (.cells #[.bool false, .slice none 0 0, .slice none 0 0] 30) := ⟨_, rfl⟩
  have hB0 : Below w.heap.size w W0 := by rw [hW0]; exact (Below.refl _ _).alloc (Nat.le_refl _) _
  have hbk : Blank W0 w.heap.size := by rw [hW0]; exact heap_alloc_new w _
  have hbl := hR5.bench.lt
  have hne : w.heap.size ≠ b := by omega
  have hbe := hR5.bench.kept hB0
  have HR0 : Hid (Room b W0 W0) := Lib.hid (Room.refl hbe (hR5.tab.kept hB0))
  have HBB : Hid (b < W0.heap.size) := Lib.hid hbe.lt
  have HLT := Lib.hid (pair_letters (hp.kept hB0) (fun p h => (hf p h).kept hB0) hbe)
  have HZ : Hid (∀ k, szQ (smallQ ((ts.map F).take k)) ≤ 34) := Lib.hid fun k => smallQ_take_sz k fun p hp => by
    obtain ⟨q, hq, rfl⟩ := List.mem_map.1 hp
    exact (hf q hq).ok
  have HNX : Hid (∀ k (hk : k < ts.length), smallQ ((ts.map F).take (k + 1)) = stepQ (smallQ ((ts.map F).take k)) (F ts[k])) := Lib.hid fun k hk => by
    have := smallQ_next (ps := ts.map F) (k := k) (by simpa using hk)
    rwa [List.getElem_map] at this
  have HFIN := Lib.hid (fun W (h : Room b W0 W) s z1 m1 k1 z2 m2 k2 => @finB b _ W5 w W0 W (smallQ (ts.map F)) s z1 z2 m1 k1 m2 k2 hR5 hB0 (Nat.le_refl _) hbk h hne)
  have HBK := Lib.hid (fun W (h : Room b W0 W) => (hbk.room h hne).cells)
  have HLE : Hid (w.heap.size < W0.heap.size) := Lib.hid (Array.getElem?_eq_some_iff.1 hbk).1
  have HML : Hid (ts.length = (ts.map F).length) := Lib.hid (by simp)
  have HW0 := Lib.hid hW0
  clear hW0 hB0 hbk hbl hne hbe hp hf hR5
  go_enter Tryz.func10, Tryz.ntmps10
  go_wp2_with fail
  rw [← HW0.out]
  refine (of_one W0).mono ?_
  rintro e w1 ⟨s1, a1, l1, c1, b1, k1, e1, rfl, G1, V1⟩
  have HR1 := Lib.hid (HR0.out.kept G1.out)
  have hst : LstAt b W0 w1.heap.size (smallQ ((ts.map F).take 0)) (s1, (a1, l1, c1), (b1, k1, e1)) (w1.alloc (.cells #[.bool s1, .slice a1 l1 c1, .slice b1 k1 e1] 30)) := ⟨HR1.out.alloc _, LiesQ.new (s1, (a1, l1, c1), (b1, k1, e1)) w1, V1.out.alloc _⟩
  have HG0 : Hid (W0.heap.size ≤ w1.heap.size ∧ w1.heap.size ≠ b) := Lib.hid (by have := HR1.out.g.size; have := HBB.out; omega)
  have HST0 := Lib.hid hst
  clear hst G1 V1 HR1
  go_wp2_with fail
  generalize w1.heap.size = r0 at *
  go_loopw [14] (fun i wr => ∃ k : Nat, k ≤ ts.length ∧ i = .int .i64 k ∧ ∃ v : RawR, Hid (LstAt b W0 r0 (smallQ ((ts.map F).take k)) v wr)) (fun i _ => ts.length - (intOf i).toNat)
  case atStart => exact ⟨0, Nat.zero_le _, rfl, _, HST0⟩
  case round =>
    obtain ⟨k, hk, rfl, ⟨ls, ⟨la, ll, lc⟩, ⟨lb, lk, le⟩⟩, HST⟩ := hrel
    by_cases hlt : k < ts.length
    · obtain ⟨g, off, xs, xa, xl, xc, xb, xk, xe, us, ua, ul, uc, ub, uk, ue, ys, ya, yl, yc, yb, yk, ye, vs, va, vl, vc, vb, vk, ve, rfl, hcl, hvq, hok⟩ := HLT.out k hlt
      have HNK := Lib.hid (HNX.out k hlt)
      have HZK := Lib.hid (HZ.out k)
      have HZS := Lib.hid (HZ.out (k + 1))
      generalize F ts[k] = p at hvq hok HNK
      generalize smallQ ((ts.map F).take k) = q at HST HNK HZK
      generalize hqs : smallQ ((ts.map F).take (k + 1)) = q' at HNK HZS
      have HQS := Lib.hid hqs
      obtain ⟨d0, d1, d2, d3, d4, d5, d6, d7, d8, d9, d10, d11⟩ := hcl _ HST.out.room
      have hgr : g < wr.heap.size := World.block_lt_of_cell? _ _ d0
      obtain ⟨w4, hw4⟩ : ∃ w4, w4 = wr.alloc (.cells #[.bool xs, .slice xa xl xc, .slice xb xk xe, .bool us, .slice ua ul uc, .slice ub uk ue, .bool ys, .slice ya yl yc, .slice yb yk ye, .bool vs, .slice va vl vc, .slice vb vk ve] 33) := ⟨_, rfl⟩
      have hb4 : Below wr.heap.size wr w4 := by rw [hw4]; exact (Below.refl _ _).alloc (Nat.le_refl _) _
      have HST4 := Lib.hid (HST.out.kept hb4)
      obtain ⟨j0, j1, j2, j3, j4, j5, j6, j7, j8, j9, j10, j11⟩ := cells12 (show w4.heap[wr.heap.size]? = _ by rw [hw4]; exact heap_alloc_new wr _)
      have HW4 := Lib.hid hw4
      have HVQ := Lib.hid hvq
      have HOK := Lib.hid hok
      obtain ⟨q0, q1, q2, q3⟩ : wr.heap.size ≠ w4.heap.size ∧ w4.heap.size ≠ wr.heap.size ∧ wr.heap.size ≠ w4.heap.size + 1 ∧ w4.heap.size + 1 ≠ wr.heap.size := by
        have : w4.heap.size = wr.heap.size + 1 := by rw [hw4]; simp
        omega
      have HJ : Hid (∀ W, Below w4.heap.size w4 W → (W.cell? ⟨wr.heap.size, 0, none⟩ = some (.bool xs) ∧ W.cell? ⟨wr.heap.size, 1, none⟩ = some (.slice xa xl xc) ∧ W.cell? ⟨wr.heap.size, 2, none⟩ = some (.slice xb xk xe) ∧ W.cell? ⟨wr.heap.size, 3, none⟩ = some (.bool us) ∧ W.cell? ⟨wr.heap.size, 4, none⟩ = some (.slice ua ul uc) ∧ W.cell? ⟨wr.heap.size, 5, none⟩ = some (.slice ub uk ue) ∧ W.cell? ⟨wr.heap.size, 6, none⟩ = some (.bool ys) ∧ W.cell? ⟨wr.heap.size, 7, none⟩ = some (.slice ya yl yc) ∧ W.cell? ⟨wr.heap.size, 8, none⟩ = some (.slice yb yk ye) ∧ W.cell? ⟨wr.heap.size, 9, none⟩ = some (.bool vs) ∧ W.cell? ⟨wr.heap.size, 10, none⟩ = some (.slice va vl vc) ∧ W.cell? ⟨wr.heap.size, 11, none⟩ = some (.slice vb vk ve))) := Lib.hid fun W h => cells12 (stay (show w4.heap[wr.heap.size]? = _ by rw [hw4]; exact heap_alloc_new wr _) h)
      clear hcl hvq hok hw4 hb4 HST hqs
      go_wp2_with fail
      rw [← HW4.out]
      have HRR := Lib.hid (Room.refl HST4.out.room.bench HST4.out.room.tab)
      have HF1 := Lib.hid (P6At.endA (X := #[.bool xs, .slice xa xl xc, .slice xb xk xe, .bool us, .slice ua ul uc, .slice ub uk ue]) (Y := #[.bool ys, .slice ya yl yc, .slice yb yk ye, .bool vs, .slice va vl vc, .slice vb vk ve]) HRR.out)
      have HF2 := Lib.hid (P6At.endB (X := #[.bool xs, .slice xa xl xc, .slice xb xk xe, .bool us, .slice ua ul uc, .slice ub uk ue]) (Y := #[.bool ys, .slice ya yl yc, .slice yb yk ye, .bool vs, .slice va vl vc, .slice vb vk ve]) HRR.out)
      refine wp_region_ex (ι := Nat × Nat) (fun i => [(18, .pointer (some ⟨wr.heap.size, 0, none⟩)), (19, .agg #[.bool xs, .slice xa xl xc, .slice xb xk xe, .bool us, .slice ua ul uc, .slice ub uk ue]), (20, .pointer (some ⟨wr.heap.size, 6, none⟩)), (21, .agg #[.bool ys, .slice ya yl yc, .slice yb yk ye, .bool vs, .slice va vl vc, .slice vb vk ve]), (8, .pointer (some ⟨i.1, 0, none⟩)), (9, .pointer (some ⟨i.2, 0, none⟩))]) (P6At b w4 #[.bool xs, .slice xa xl xc, .slice xb xk xe, .bool us, .slice ua ul uc, .slice ub uk ue] #[.bool ys, .slice ya yl yc, .slice yb yk ye, .bool vs, .slice va vl vc, .slice vb vk ve]) ?region ?rest
      case region =>
        refine wp_region_held_drew (S := (fun w' => w'.cell? ⟨wr.heap.size, 0, none⟩ = some (.bool xs) ∧ w'.cell? ⟨wr.heap.size, 1, none⟩ = some (.slice xa xl xc) ∧ w'.cell? ⟨wr.heap.size, 2, none⟩ = some (.slice xb xk xe) ∧ w'.cell? ⟨wr.heap.size, 3, none⟩ = some (.bool us) ∧ w'.cell? ⟨wr.heap.size, 4, none⟩ = some (.slice ua ul uc) ∧ w'.cell? ⟨wr.heap.size, 5, none⟩ = some (.slice ub uk ue) ∧ w'.cell? ⟨wr.heap.size, 6, none⟩ = some (.bool ys) ∧ w'.cell? ⟨wr.heap.size, 7, none⟩ = some (.slice ya yl yc) ∧ w'.cell? ⟨wr.heap.size, 8, none⟩ = some (.slice yb yk ye) ∧ w'.cell? ⟨wr.heap.size, 9, none⟩ = some (.bool vs) ∧ w'.cell? ⟨wr.heap.size, 10, none⟩ = some (.slice va vl vc) ∧ w'.cell? ⟨wr.heap.size, 11, none⟩ = some (.slice vb vk ve))) (by kernel_rfl) ?_ (fun hHeld => ?_)
        · exact HJ.out _ (below_drew w4)
        refine wpAnyH_take (i := 0) (v := ?_) (by rfl) (by kernel_rfl) (by kernel_rfl) (by kernel_rfl) (by exact fun _ _ _ h => h) (Or.inl ⟨by rfl, ?_⟩) hHeld ?_
        rotate_left 1
        · intro w' hSw
          go_simp
          try with_reducible rfl
        try simp only [Act.put, List.setIfInBounds_toArray, List.set_cons_zero, List.set_cons_succ, List.getElem_toArray, List.getElem_cons_zero, List.getElem_cons_succ]
        refine wpAnyH_take (i := 1) (v := ?_) (by rfl) (by kernel_rfl) (by kernel_rfl) (by kernel_rfl) (by exact fun _ _ _ h => h) (Or.inl ⟨by rfl, ?_⟩) hHeld ?_
        rotate_left 1
        · intro w' hSw
          go_simp
          try with_reducible rfl
        try simp only [Act.put, List.setIfInBounds_toArray, List.set_cons_zero, List.set_cons_succ, List.getElem_toArray, List.getElem_cons_zero, List.getElem_cons_succ]
        refine wpAnyH_take (i := 2) (v := ?_) (by rfl) (by kernel_rfl) (by kernel_rfl) (by kernel_rfl) (by exact fun _ _ _ h => h) (Or.inl ⟨by rfl, ?_⟩) hHeld ?_
        rotate_left 1
        · intro w' hSw
          go_simp
          try with_reducible rfl
        try simp only [Act.put, List.setIfInBounds_toArray, List.set_cons_zero, List.set_cons_succ, List.getElem_toArray, List.getElem_cons_zero, List.getElem_cons_succ]
        refine wpAnyH_take (i := 3) (v := ?_) (by rfl) (by kernel_rfl) (by kernel_rfl) (by kernel_rfl) (by exact fun _ _ _ h => h) (Or.inl ⟨by rfl, ?_⟩) hHeld ?_
        rotate_left 1
        · intro w' hSw
          go_simp
          try with_reducible rfl
        try simp only [Act.put, List.setIfInBounds_toArray, List.set_cons_zero, List.set_cons_succ, List.getElem_toArray, List.getElem_cons_zero, List.getElem_cons_succ]
        refine wpAnyH_ready (rs := [4, 5]) (by kernel_rfl) (by simp) ?_
        refine AllReadyH.cons (by rfl) (fun K hK => ?_) ?_
        · go_simp
          refine hK.out _ _ ?_ (fun hHeld => ?_)
          · exact HJ.out _ (show Below w4.heap.size w4 (w4.alloc (.cells #[.bool false, .slice none 0 0, .slice none 0 0, .bool false, .slice none 0 0, .slice none 0 0] 32)).drew from Below.drewN' ((Below.refl w4.heap.size w4).alloc (Nat.le_refl _) (.cells #[.bool false, .slice none 0 0, .slice none 0 0, .bool false, .slice none 0 0, .slice none 0 0] 32)) 1)
          clear hK K
          try simp only [Act.put, List.setIfInBounds_toArray, List.set_cons_zero, List.set_cons_succ, List.getElem_toArray, List.getElem_cons_zero, List.getElem_cons_succ]
          refine wpAnyH_ready (rs := [5]) (by kernel_rfl) (by simp) ?_
          refine AllReadyH.cons (by rfl) (fun K hK => ?_) AllReadyH.nil
          go_simp
          refine hK.out _ _ ?_ (fun hHeld => ?_)
          · exact HJ.out _ (show Below w4.heap.size w4 ((w4.alloc (.cells #[.bool false, .slice none 0 0, .slice none 0 0, .bool false, .slice none 0 0, .slice none 0 0] 32)).alloc (.cells #[.bool false, .slice none 0 0, .slice none 0 0, .bool false, .slice none 0 0, .slice none 0 0] 32)).drew from Below.drewN' (((Below.refl w4.heap.size w4).alloc (Nat.le_refl _) (.cells #[.bool false, .slice none 0 0, .slice none 0 0, .bool false, .slice none 0 0, .slice none 0 0] 32)).alloc (by simp) (.cells #[.bool false, .slice none 0 0, .slice none 0 0, .bool false, .slice none 0 0, .slice none 0 0] 32)) 1)
          clear hK K
          try simp only [Act.put, List.setIfInBounds_toArray, List.set_cons_zero, List.set_cons_succ, List.getElem_toArray, List.getElem_cons_zero, List.getElem_cons_succ]
          refine wpAnyH_ready (rs := [6]) (by kernel_rfl) (by simp) ?_
          refine AllReadyH.cons (by rfl) (fun K hK => ?_) AllReadyH.nil
          go_simp
          refine hK.out _ _ ?_ (fun hHeld => ?_)
          · go_keep
          clear hK K
          try simp only [Act.put, List.setIfInBounds_toArray, List.set_cons_zero, List.set_cons_succ, List.getElem_toArray, List.getElem_cons_zero, List.getElem_cons_succ]
          refine wpAnyH_ready (rs := [7]) (by kernel_rfl) (by simp) ?_
          refine AllReadyH.cons (by rfl) (fun K hK => ?_) AllReadyH.nil
          go_simp
          refine hK.out _ _ ?_ (fun hHeld => ?_)
          · go_keep
          clear hK K
          try simp only [Act.put, List.setIfInBounds_toArray, List.set_cons_zero, List.set_cons_succ, List.getElem_toArray, List.getElem_cons_zero, List.getElem_cons_succ]
          refine wpAnyH_done (by kernel_rfl) ?_ _
          refine OnlyEx.mk' ?_
          with_reducible refine ⟨_, ?_, HF1.out⟩
          simp only [puts, Act.put, List.setIfInBounds_toArray, List.set_cons_zero, List.set_cons_succ]
        refine AllReadyH.cons (by rfl) (fun K hK => ?_) ?_
        · go_simp
          refine hK.out _ _ ?_ (fun hHeld => ?_)
          · exact HJ.out _ (show Below w4.heap.size w4 (w4.alloc (.cells #[.bool false, .slice none 0 0, .slice none 0 0, .bool false, .slice none 0 0, .slice none 0 0] 32)).drew from Below.drewN' ((Below.refl w4.heap.size w4).alloc (Nat.le_refl _) (.cells #[.bool false, .slice none 0 0, .slice none 0 0, .bool false, .slice none 0 0, .slice none 0 0] 32)) 1)
          clear hK K
          try simp only [Act.put, List.setIfInBounds_toArray, List.set_cons_zero, List.set_cons_succ, List.getElem_toArray, List.getElem_cons_zero, List.getElem_cons_succ]
          refine wpAnyH_ready (rs := [4]) (by kernel_rfl) (by simp) ?_
          refine AllReadyH.cons (by rfl) (fun K hK => ?_) AllReadyH.nil
          go_simp
          refine hK.out _ _ ?_ (fun hHeld => ?_)
          · exact HJ.out _ (show Below w4.heap.size w4 ((w4.alloc (.cells #[.bool false, .slice none 0 0, .slice none 0 0, .bool false, .slice none 0 0, .slice none 0 0] 32)).alloc (.cells #[.bool false, .slice none 0 0, .slice none 0 0, .bool false, .slice none 0 0, .slice none 0 0] 32)).drew from Below.drewN' (((Below.refl w4.heap.size w4).alloc (Nat.le_refl _) (.cells #[.bool false, .slice none 0 0, .slice none 0 0, .bool false, .slice none 0 0, .slice none 0 0] 32)).alloc (by simp) (.cells #[.bool false, .slice none 0 0, .slice none 0 0, .bool false, .slice none 0 0, .slice none 0 0] 32)) 1)
          clear hK K
          try simp only [Act.put, List.setIfInBounds_toArray, List.set_cons_zero, List.set_cons_succ, List.getElem_toArray, List.getElem_cons_zero, List.getElem_cons_succ]
          refine wpAnyH_ready (rs := [6]) (by kernel_rfl) (by simp) ?_
          refine AllReadyH.cons (by rfl) (fun K hK => ?_) AllReadyH.nil
          go_simp
          refine hK.out _ _ ?_ (fun hHeld => ?_)
          · go_keep
          clear hK K
          try simp only [Act.put, List.setIfInBounds_toArray, List.set_cons_zero, List.set_cons_succ, List.getElem_toArray, List.getElem_cons_zero, List.getElem_cons_succ]
          refine wpAnyH_ready (rs := [7]) (by kernel_rfl) (by simp) ?_
          refine AllReadyH.cons (by rfl) (fun K hK => ?_) AllReadyH.nil
          go_simp
          refine hK.out _ _ ?_ (fun hHeld => ?_)
          · go_keep
          clear hK K
          try simp only [Act.put, List.setIfInBounds_toArray, List.set_cons_zero, List.set_cons_succ, List.getElem_toArray, List.getElem_cons_zero, List.getElem_cons_succ]
          refine wpAnyH_done (by kernel_rfl) ?_ _
          refine OnlyEx.mk' ?_
          with_reducible refine ⟨_, ?_, HF2.out⟩
          simp only [puts, Act.put, List.setIfInBounds_toArray, List.set_cons_zero, List.set_cons_succ]
        exact AllReadyH.nil
      case rest =>
        rintro ⟨gx, gy⟩ w5 hF
        obtain ⟨hx, hy, hr, hgx, hgy⟩ := hF
        dsimp only at hx hy hgx hgy
        have HR5' := Lib.hid hr
        have HBB5 : Hid (b < w4.heap.size) := Lib.hid HST4.out.room.bench.lt
        have HKX : Hid (∀ W, Room b w5 W → (W.cell? ⟨gx, 0, none⟩ = some (.bool xs) ∧ W.cell? ⟨gx, 1, none⟩ = some (.slice xa xl xc) ∧ W.cell? ⟨gx, 2, none⟩ = some (.slice xb xk xe) ∧ W.cell? ⟨gx, 3, none⟩ = some (.bool us) ∧ W.cell? ⟨gx, 4, none⟩ = some (.slice ua ul uc) ∧ W.cell? ⟨gx, 5, none⟩ = some (.slice ub uk ue) ∧ W.cell? ⟨gy, 0, none⟩ = some (.bool ys) ∧ W.cell? ⟨gy, 1, none⟩ = some (.slice ya yl yc) ∧ W.cell? ⟨gy, 2, none⟩ = some (.slice yb yk ye) ∧ W.cell? ⟨gy, 3, none⟩ = some (.bool vs) ∧ W.cell? ⟨gy, 4, none⟩ = some (.slice va vl vc) ∧ W.cell? ⟨gy, 5, none⟩ = some (.slice vb vk ve))) := Lib.hid fun W h => by
          obtain ⟨k0, k1, k2, k3, k4, k5, _⟩ := cells6 (h.block hx (by have := HBB5.out; omega))
          obtain ⟨k6, k7, k8, k9, k10, k11, _⟩ := cells6 (h.block hy (by have := HBB5.out; omega))
          exact ⟨k0, k1, k2, k3, k4, k5, k6, k7, k8, k9, k10, k11⟩
        have HGX : Hid (gx < w5.heap.size ∧ gy < w5.heap.size) := Lib.hid ⟨(Array.getElem?_eq_some_iff.1 hx).1, (Array.getElem?_eq_some_iff.1 hy).1⟩
        have HST5 := Lib.hid (HST4.out.step hr HG0.out.2)
        have HV5 := Lib.hid (fun W (h : Room b w5 W) => HVQ.out W (HST5.out.room.trans h))
        obtain ⟨k0, k1, k2, k3, k4, k5, k6, k7, k8, k9, k10, k11⟩ := HKX.out w5 (Room.refl hr.bench hr.tab)
        clear hx hy hr hgx hgy HF1 HF2 HRR HST4 HVQ HW4 HR5' q0 q1 q2 q3 d0 d1 d2 d3 d4 d5 d6 d7 d8 d9 d10 d11 j0 j1 j2 j3 j4 j5 j6 j7 j8 j9 j10 j11 hgr
        simp only [puts, Act.put, List.setIfInBounds_toArray, List.set_cons_zero, List.set_cons_succ]
        obtain ⟨cm, hcm⟩ : ∃ cm, meetQ p = cm := ⟨_, rfl⟩
        have HME : Hid (Calls Tryz.prog 36 #[.agg #[.bool xs, .slice xa xl xc, .slice xb xk xe, .bool us, .slice ua ul uc, .slice ub uk ue], .agg #[.bool ys, .slice ya yl yc, .slice yb yk ye, .bool vs, .slice va vl vc, .slice vb vk ve]] w5 (GotV w5 (.bool cm))) := Lib.hid (by
          obtain ⟨v1, v2, v3, v4⟩ := HV5.out w5 (Room.refl HST5.out.room.bench HST5.out.room.tab)
          exact MeetPP v1 v2 v3 v4 HOK.out (Below.refl _ _) hcm)
        have HCM := Lib.hid hcm
        clear hcm
        cases cm
        case false =>
          go_wp2_with fail
          refine HME.out.mono ?_
          rintro e w6 ⟨rfl, G6⟩
          have HE : Hid (LstAt b W0 r0 (smallQ ((ts.map F).take (k + 1))) (ls, (la, ll, lc), (lb, lk, le)) w6) := Lib.hid (by
            rw [HQS.out, HNK.out, stepQ_no HCM.out]
            exact HST5.out.kept G6.out)
          clear G6 HST5 HV5 HKX HME HCM HNK HQS HZK HZS k0 k1 k2 k3 k4 k5 k6 k7 k8 k9 k10 k11
          go_wp2_with fail
          go_roundw
          case rel => exact ⟨k + 1, by omega, by go_num, _, HE⟩
          case measure => simp [intOf]; omega
        case true =>
          go_wp2_with fail
          refine HME.out.mono ?_
          rintro e w6 ⟨rfl, G6⟩
          have HS6 := Lib.hid ((Room.refl HST5.out.room.bench HST5.out.room.tab).kept G6.out)
          have HST6 := Lib.hid (HST5.out.step HS6.out HG0.out.2)
          have HRB := Lib.hid (Room.refl HST6.out.room.bench HST6.out.room.tab)
          have HRD := Lib.hid (HRB.out.kept (below_drew w6))
          have HK : Hid (∀ W, Room b w6 W → (W.cell? ⟨gx, 0, none⟩ = some (.bool xs) ∧ W.cell? ⟨gx, 1, none⟩ = some (.slice xa xl xc) ∧ W.cell? ⟨gx, 2, none⟩ = some (.slice xb xk xe) ∧ W.cell? ⟨gx, 3, none⟩ = some (.bool us) ∧ W.cell? ⟨gx, 4, none⟩ = some (.slice ua ul uc) ∧ W.cell? ⟨gx, 5, none⟩ = some (.slice ub uk ue) ∧ W.cell? ⟨gy, 0, none⟩ = some (.bool ys) ∧ W.cell? ⟨gy, 1, none⟩ = some (.slice ya yl yc) ∧ W.cell? ⟨gy, 2, none⟩ = some (.slice yb yk ye) ∧ W.cell? ⟨gy, 3, none⟩ = some (.bool vs) ∧ W.cell? ⟨gy, 4, none⟩ = some (.slice va vl vc) ∧ W.cell? ⟨gy, 5, none⟩ = some (.slice vb vk ve))) := Lib.hid fun W h => HKX.out W (HS6.out.trans h)
          have HC1 : Hid (∀ W, Room b w6 W → Calls Tryz.prog 37 #[.pointer (some ⟨b, 0, none⟩), .agg #[.bool ys, .slice ya yl yc, .slice yb yk ye], .agg #[.bool xs, .slice xa xl xc, .slice xb xk xe]] W (GotB b W (p.e - p.a))) := Lib.hid fun W h => by
            obtain ⟨v1, v2, v3, v4⟩ := HV5.out W (HS6.out.trans h)
            obtain ⟨z1, z2, z3, z4⟩ := HOK.out
            exact gotB_sub (Room.refl h.bench h.tab) v3 v1 (by omega) (by omega)
          have HC2 : Hid (∀ W, Room b w6 W → Calls Tryz.prog 37 #[.pointer (some ⟨b, 0, none⟩), .agg #[.bool us, .slice ua ul uc, .slice ub uk ue], .agg #[.bool vs, .slice va vl vc, .slice vb vk ve]] W (GotB b W (p.b - p.f))) := Lib.hid fun W h => by
            obtain ⟨v1, v2, v3, v4⟩ := HV5.out W (HS6.out.trans h)
            obtain ⟨z1, z2, z3, z4⟩ := HOK.out
            exact gotB_sub (Room.refl h.bench h.tab) v2 v4 (by omega) (by omega)
          have HC3 : Hid (∀ W ms ma ml mc mb mk me ns na nl nc nb nk ne, Room b w6 W → VQ (p.e - p.a) (ms, (ma, ml, mc), (mb, mk, me)) W → VQ (p.b - p.f) (ns, (na, nl, nc), (nb, nk, ne)) W → Calls Tryz.prog 15 #[.pointer (some ⟨b, 0, none⟩), .agg #[.bool ms, .slice ma ml mc, .slice mb mk me], .agg #[.bool ns, .slice na nl nc, .slice nb nk ne]] W (GotB b W (atQ p))) := Lib.hid fun W ms ma ml mc mb mk me ns na nl nc nb nk ne h h1 h2 => by
            obtain ⟨z1, z2, _⟩ := atQ_sz HOK.out
            exact gotB_div (Room.refl h.bench h.tab) h1 h2 (by omega) (by omega)
          have HBB6 : Hid (b < w6.heap.size) := Lib.hid HST6.out.room.bench.lt
          have HGX6 : Hid (gx < w6.heap.size ∧ gy < w6.heap.size) := Lib.hid (by have := HGX.out; have := HS6.out.g.size; omega)
          clear HGX
          have HGX := HGX6
          clear HGX6 G6 HST5 HV5 HKX HME k0 k1 k2 k3 k4 k5 k6 k7 k8 k9 k10 k11
          go_wp2_with fail
          refine wp_region_ex (ι := Nat × RawR × RawR × RawR) (fun i => [(25, .pointer (some ⟨b, 0, none⟩)), (26, .pointer (some ⟨b, 0, none⟩)), (27, .pointer (some ⟨gy, 0, none⟩)), (28, .agg #[.bool ys, .slice ya yl yc, .slice yb yk ye]), (29, .pointer (some ⟨gx, 0, none⟩)), (30, .agg #[.bool xs, .slice xa xl xc, .slice xb xk xe]), (31, .agg #[.bool i.2.1.1, .slice i.2.1.2.1.1 i.2.1.2.1.2.1 i.2.1.2.1.2.2, .slice i.2.1.2.2.1 i.2.1.2.2.2.1 i.2.1.2.2.2.2]), (32, .pointer (some ⟨b, 0, none⟩)), (33, .pointer (some ⟨gx, 3, none⟩)), (34, .agg #[.bool us, .slice ua ul uc, .slice ub uk ue]), (35, .pointer (some ⟨gy, 3, none⟩)), (36, .agg #[.bool vs, .slice va vl vc, .slice vb vk ve]), (37, .agg #[.bool i.2.2.1.1, .slice i.2.2.1.2.1.1 i.2.2.1.2.1.2.1 i.2.2.1.2.1.2.2, .slice i.2.2.1.2.2.1 i.2.2.1.2.2.2.1 i.2.2.1.2.2.2.2]), (38, .agg #[.bool i.2.2.2.1, .slice i.2.2.2.2.1.1 i.2.2.2.2.1.2.1 i.2.2.2.2.1.2.2, .slice i.2.2.2.2.2.1 i.2.2.2.2.2.2.1 i.2.2.2.2.2.2.2]), (10, .pointer (some ⟨i.1, 0, none⟩))]) (MtAt b w6 (atQ p)) ?region ?rest
          case region =>
            refine wp_region_held_drew (S := (fun w' => w'.cell? ⟨gx, 0, none⟩ = some (.bool xs) ∧ w'.cell? ⟨gx, 1, none⟩ = some (.slice xa xl xc) ∧ w'.cell? ⟨gx, 2, none⟩ = some (.slice xb xk xe) ∧ w'.cell? ⟨gx, 3, none⟩ = some (.bool us) ∧ w'.cell? ⟨gx, 4, none⟩ = some (.slice ua ul uc) ∧ w'.cell? ⟨gx, 5, none⟩ = some (.slice ub uk ue) ∧ w'.cell? ⟨gy, 0, none⟩ = some (.bool ys) ∧ w'.cell? ⟨gy, 1, none⟩ = some (.slice ya yl yc) ∧ w'.cell? ⟨gy, 2, none⟩ = some (.slice yb yk ye) ∧ w'.cell? ⟨gy, 3, none⟩ = some (.bool vs) ∧ w'.cell? ⟨gy, 4, none⟩ = some (.slice va vl vc) ∧ w'.cell? ⟨gy, 5, none⟩ = some (.slice vb vk ve))) (by kernel_rfl) ?_ (fun hHeld => ?_)
            · exact HK.out _ HRD.out
            refine wpAnyH_take (i := 0) (v := ?_) (by rfl) (by kernel_rfl) (by kernel_rfl) (by kernel_rfl) (by exact fun _ _ _ h => h) (Or.inl ⟨by rfl, ?_⟩) hHeld ?_
            rotate_left 1
            · intro w' hSw
              go_simp
              try with_reducible rfl
            try simp only [Act.put, List.setIfInBounds_toArray, List.set_cons_zero, List.set_cons_succ, List.getElem_toArray, List.getElem_cons_zero, List.getElem_cons_succ]
            refine wpAnyH_take (i := 1) (v := ?_) (by rfl) (by kernel_rfl) (by kernel_rfl) (by kernel_rfl) (by exact fun _ _ _ h => h) (Or.inl ⟨by rfl, ?_⟩) hHeld ?_
            rotate_left 1
            · intro w' hSw
              go_simp
              try with_reducible rfl
            try simp only [Act.put, List.setIfInBounds_toArray, List.set_cons_zero, List.set_cons_succ, List.getElem_toArray, List.getElem_cons_zero, List.getElem_cons_succ]
            refine wpAnyH_take (i := 2) (v := ?_) (by rfl) (by kernel_rfl) (by kernel_rfl) (by kernel_rfl) (by exact fun _ _ _ h => h) (Or.inl ⟨by rfl, ?_⟩) hHeld ?_
            rotate_left 1
            · intro w' hSw
              go_simp
              try with_reducible rfl
            try simp only [Act.put, List.setIfInBounds_toArray, List.set_cons_zero, List.set_cons_succ, List.getElem_toArray, List.getElem_cons_zero, List.getElem_cons_succ]
            refine wpAnyH_take (i := 3) (v := ?_) (by rfl) (by kernel_rfl) (by kernel_rfl) (by kernel_rfl) (by exact fun _ _ _ h => h) (Or.inl ⟨by rfl, ?_⟩) hHeld ?_
            rotate_left 1
            · intro w' hSw
              go_simp
              try with_reducible rfl
            try simp only [Act.put, List.setIfInBounds_toArray, List.set_cons_zero, List.set_cons_succ, List.getElem_toArray, List.getElem_cons_zero, List.getElem_cons_succ]
            refine wpAnyH_take (i := 4) (v := ?_) (by rfl) (by kernel_rfl) (by kernel_rfl) (by kernel_rfl) (by exact fun _ _ _ h => h) (Or.inl ⟨by rfl, ?_⟩) hHeld ?_
            rotate_left 1
            · intro w' hSw
              go_simp
              try with_reducible rfl
            try simp only [Act.put, List.setIfInBounds_toArray, List.set_cons_zero, List.set_cons_succ, List.getElem_toArray, List.getElem_cons_zero, List.getElem_cons_succ]
            refine wpAnyH_take (i := 5) (v := ?_) (by rfl) (by kernel_rfl) (by kernel_rfl) (by kernel_rfl) (by exact fun _ _ _ h => h) (Or.inl ⟨by rfl, ?_⟩) hHeld ?_
            rotate_left 1
            · intro w' hSw
              go_simp
              try with_reducible rfl
            try simp only [Act.put, List.setIfInBounds_toArray, List.set_cons_zero, List.set_cons_succ, List.getElem_toArray, List.getElem_cons_zero, List.getElem_cons_succ]
            refine wpAnyH_take (i := 7) (v := ?_) (by rfl) (by kernel_rfl) (by kernel_rfl) (by kernel_rfl) (by exact fun _ _ _ h => h) (Or.inl ⟨by rfl, ?_⟩) hHeld ?_
            rotate_left 1
            · intro w' hSw
              go_simp
              try with_reducible rfl
            try simp only [Act.put, List.setIfInBounds_toArray, List.set_cons_zero, List.set_cons_succ, List.getElem_toArray, List.getElem_cons_zero, List.getElem_cons_succ]
            refine wpAnyH_take (i := 8) (v := ?_) (by rfl) (by kernel_rfl) (by kernel_rfl) (by kernel_rfl) (by exact fun _ _ _ h => h) (Or.inl ⟨by rfl, ?_⟩) hHeld ?_
            rotate_left 1
            · intro w' hSw
              go_simp
              try with_reducible rfl
            try simp only [Act.put, List.setIfInBounds_toArray, List.set_cons_zero, List.set_cons_succ, List.getElem_toArray, List.getElem_cons_zero, List.getElem_cons_succ]
            refine wpAnyH_take (i := 9) (v := ?_) (by rfl) (by kernel_rfl) (by kernel_rfl) (by kernel_rfl) (by exact fun _ _ _ h => h) (Or.inl ⟨by rfl, ?_⟩) hHeld ?_
            rotate_left 1
            · intro w' hSw
              go_simp
              try with_reducible rfl
            try simp only [Act.put, List.setIfInBounds_toArray, List.set_cons_zero, List.set_cons_succ, List.getElem_toArray, List.getElem_cons_zero, List.getElem_cons_succ]
            refine wpAnyH_take (i := 10) (v := ?_) (by rfl) (by kernel_rfl) (by kernel_rfl) (by kernel_rfl) (by exact fun _ _ _ h => h) (Or.inl ⟨by rfl, ?_⟩) hHeld ?_
            rotate_left 1
            · intro w' hSw
              go_simp
              try with_reducible rfl
            try simp only [Act.put, List.setIfInBounds_toArray, List.set_cons_zero, List.set_cons_succ, List.getElem_toArray, List.getElem_cons_zero, List.getElem_cons_succ]
            refine wpAnyH_take (i := 11) (v := ?_) (by rfl) (by kernel_rfl) (by kernel_rfl) (by kernel_rfl) (by exact fun _ _ _ h => h) (Or.inl ⟨by rfl, ?_⟩) hHeld ?_
            rotate_left 1
            · intro w' hSw
              go_simp
              try with_reducible rfl
            try simp only [Act.put, List.setIfInBounds_toArray, List.set_cons_zero, List.set_cons_succ, List.getElem_toArray, List.getElem_cons_zero, List.getElem_cons_succ]
            refine wpAnyH_ready (rs := [6, 14]) (by kernel_rfl) (by simp) ?_
            refine AllReadyH.cons (by rfl) (fun K hK => ?_) ?_
            · go_simp
              with_reducible refine (HC1.out _ HRD.out).mono ?_
              rintro e w101 ⟨x1s, x1a, x1l, x1c, x1b, x1k, x1e, rfl, HS1, V1⟩
              have HR1 := Lib.hid (HRD.out.trans HS1.out)
              clear hHeld
              refine hK.out _ _ ?_ (fun hHeld => ?_)
              · exact HK.out _ HR1.out
              clear hK K
              try simp only [Act.put, List.setIfInBounds_toArray, List.set_cons_zero, List.set_cons_succ, List.getElem_toArray, List.getElem_cons_zero, List.getElem_cons_succ]
              refine wpAnyH_ready (rs := [12, 14]) (by kernel_rfl) (by simp) ?_
              refine AllReadyH.cons (by rfl) (fun K hK => ?_) ?_
              · go_simp
                with_reducible refine (HC2.out _ HR1.out).mono ?_
                rintro e w102 ⟨y2s, y2a, y2l, y2c, y2b, y2k, y2e, rfl, HS2, V2⟩
                have HR2 := Lib.hid (HR1.out.trans HS2.out)
                have V2_0 := Lib.hid (HS2.out.vq HR1.out.bench V1.out)
                clear hHeld
                refine hK.out _ _ ?_ (fun hHeld => ?_)
                · exact HK.out _ HR2.out
                clear hK K
                try simp only [Act.put, List.setIfInBounds_toArray, List.set_cons_zero, List.set_cons_succ, List.getElem_toArray, List.getElem_cons_zero, List.getElem_cons_succ]
                refine wpAnyH_ready (rs := [13, 14]) (by kernel_rfl) (by simp) ?_
                refine AllReadyH.cons (by rfl) (fun K hK => ?_) ?_
                · go_simp
                  with_reducible refine (HC3.out _ _ _ _ _ _ _ _ _ _ _ _ _ _ _ HR2.out V2_0.out V2.out).mono ?_
                  rintro e w103 ⟨z3s, z3a, z3l, z3c, z3b, z3k, z3e, rfl, HS3, V3⟩
                  have HR3 := Lib.hid (HR2.out.trans HS3.out)
                  have V3_0 := Lib.hid (HS3.out.vq HR2.out.bench V2_0.out)
                  have V3_1 := Lib.hid (HS3.out.vq HR2.out.bench V2.out)
                  clear hHeld
                  refine hK.out _ _ ?_ (fun hHeld => ?_)
                  · exact HK.out _ HR3.out
                  clear hK K
                  try simp only [Act.put, List.setIfInBounds_toArray, List.set_cons_zero, List.set_cons_succ, List.getElem_toArray, List.getElem_cons_zero, List.getElem_cons_succ]
                  refine wpAnyH_ready (rs := [14]) (by kernel_rfl) (by simp) ?_
                  refine AllReadyH.cons (by rfl) (fun K hK => ?_) ?_
                  · go_simp
                    refine hK.out _ _ ?_ (fun hHeld => ?_)
                    · exact HK.out _ (HR3.out.alloc _)
                    clear hK K
                    try simp only [Act.put, List.setIfInBounds_toArray, List.set_cons_zero, List.set_cons_succ, List.getElem_toArray, List.getElem_cons_zero, List.getElem_cons_succ]
                    have hf := MtAt.endA (x := (x1s, (x1a, x1l, x1c), (x1b, x1k, x1e))) (y := (y2s, (y2a, y2l, y2c), (y2b, y2k, y2e))) (z := (z3s, (z3a, z3l, z3c), (z3b, z3k, z3e))) HR3.out V3.out
                    obtain ⟨k0, k1, k2, k3, k4, k5, k6, k7, k8, k9, k10, k11⟩ := HK.out _ HR3.out
                    have hgm1 : gx ≠ w103.heap.size := by have := HGX.out; have := HR3.out.g.size; omega
                    have hgm2 : gy ≠ w103.heap.size := by have := HGX.out; have := HR3.out.g.size; omega
                    try dsimp only [Go.Proofs.YtknackfmepkiaaaGreatDoor.set3] at hf
                    have HF := Lib.hid hf
                    clear hf
                    refine wpAnyH_ready (rs := [15]) (by kernel_rfl) (by simp) ?_
                    refine AllReadyH.cons (by rfl) (fun K hK => ?_) AllReadyH.nil
                    go_simp
                    refine hK.out _ _ ?_ (fun hHeld => ?_)
                    · exact HK.out _ HF.out.room
                    clear hK K
                    try simp only [Act.put, List.setIfInBounds_toArray, List.set_cons_zero, List.set_cons_succ, List.getElem_toArray, List.getElem_cons_zero, List.getElem_cons_succ]
                    refine wpAnyH_done (by kernel_rfl) ?_ _
                    refine OnlyEx.mk' ?_
                    with_reducible refine ⟨_, ?_, HF.out⟩
                    simp only [puts, Act.put, List.setIfInBounds_toArray, List.set_cons_zero, List.set_cons_succ]
                  exact AllReadyH.nil
                refine AllReadyH.cons (by rfl) (fun K hK => ?_) ?_
                · go_simp
                  have HR5 := Lib.hid (HR2.out.alloc (.cells #[.bool false, .slice none 0 0, .slice none 0 0] 30))
                  have V5_0 := Lib.hid (V2_0.out.alloc (.cells #[.bool false, .slice none 0 0, .slice none 0 0] 30))
                  have V5_1 := Lib.hid (V2.out.alloc (.cells #[.bool false, .slice none 0 0, .slice none 0 0] 30))
                  have B5 : Hid (Blank (w102.alloc (.cells #[.bool false, .slice none 0 0, .slice none 0 0] 30)) (w102.heap.size)) := Lib.hid (heap_alloc_new _ _)
                  refine hK.out _ _ ?_ (fun hHeld => ?_)
                  · exact HK.out _ HR5.out
                  clear hK K
                  try simp only [Act.put, List.setIfInBounds_toArray, List.set_cons_zero, List.set_cons_succ, List.getElem_toArray, List.getElem_cons_zero, List.getElem_cons_succ]
                  refine wpAnyH_ready (rs := [13]) (by kernel_rfl) (by simp) ?_
                  refine AllReadyH.cons (by rfl) (fun K hK => ?_) ?_
                  · go_simp
                    with_reducible refine (HC3.out _ _ _ _ _ _ _ _ _ _ _ _ _ _ _ HR5.out V5_0.out V5_1.out).mono ?_
                    rintro e w106 ⟨z6s, z6a, z6l, z6c, z6b, z6k, z6e, rfl, HS6, V6⟩
                    have HR6 := Lib.hid (HR5.out.trans HS6.out)
                    have V6_0 := Lib.hid (HS6.out.vq HR5.out.bench V5_0.out)
                    have V6_1 := Lib.hid (HS6.out.vq HR5.out.bench V5_1.out)
                    have B6_0 := Lib.hid (B5.out.room HS6.out (by have := HBB6.out; have := HR2.out.g.size; omega))
                    clear hHeld
                    refine hK.out _ _ ?_ (fun hHeld => ?_)
                    · exact HK.out _ HR6.out
                    clear hK K
                    try simp only [Act.put, List.setIfInBounds_toArray, List.set_cons_zero, List.set_cons_succ, List.getElem_toArray, List.getElem_cons_zero, List.getElem_cons_succ]
                    have hf := MtAt.endB (x := (x1s, (x1a, x1l, x1c), (x1b, x1k, x1e))) (y := (y2s, (y2a, y2l, y2c), (y2b, y2k, y2e))) (z := (z6s, (z6a, z6l, z6c), (z6b, z6k, z6e))) HR6.out V6.out B6_0.out (by have := HBB6.out; have := HR2.out.g.size; omega) (by have := HBB6.out; have := HR2.out.g.size; omega)
                    obtain ⟨m0, m1, m2, n0, n1, n2⟩ := B6_0.out.cells
                    obtain ⟨k0, k1, k2, k3, k4, k5, k6, k7, k8, k9, k10, k11⟩ := HK.out _ HR6.out
                    have hgm1 : gx ≠ w102.heap.size := by have := HGX.out; have := HR2.out.g.size; omega
                    have hgm2 : gy ≠ w102.heap.size := by have := HGX.out; have := HR2.out.g.size; omega
                    try dsimp only [Go.Proofs.YtknackfmepkiaaaGreatDoor.set3] at hf
                    have HF := Lib.hid hf
                    clear hf
                    refine wpAnyH_ready (rs := [15]) (by kernel_rfl) (by simp) ?_
                    refine AllReadyH.cons (by rfl) (fun K hK => ?_) AllReadyH.nil
                    go_simp
                    refine hK.out _ _ ?_ (fun hHeld => ?_)
                    · exact HK.out _ HF.out.room
                    clear hK K
                    try simp only [Act.put, List.setIfInBounds_toArray, List.set_cons_zero, List.set_cons_succ, List.getElem_toArray, List.getElem_cons_zero, List.getElem_cons_succ]
                    refine wpAnyH_done (by kernel_rfl) ?_ _
                    refine OnlyEx.mk' ?_
                    with_reducible refine ⟨_, ?_, HF.out⟩
                    simp only [puts, Act.put, List.setIfInBounds_toArray, List.set_cons_zero, List.set_cons_succ]
                  exact AllReadyH.nil
                exact AllReadyH.nil
              refine AllReadyH.cons (by rfl) (fun K hK => ?_) ?_
              · go_simp
                have HR7 := Lib.hid (HR1.out.alloc (.cells #[.bool false, .slice none 0 0, .slice none 0 0] 30))
                have V7_0 := Lib.hid (V1.out.alloc (.cells #[.bool false, .slice none 0 0, .slice none 0 0] 30))
                have B7 : Hid (Blank (w101.alloc (.cells #[.bool false, .slice none 0 0, .slice none 0 0] 30)) (w101.heap.size)) := Lib.hid (heap_alloc_new _ _)
                refine hK.out _ _ ?_ (fun hHeld => ?_)
                · exact HK.out _ HR7.out
                clear hK K
                try simp only [Act.put, List.setIfInBounds_toArray, List.set_cons_zero, List.set_cons_succ, List.getElem_toArray, List.getElem_cons_zero, List.getElem_cons_succ]
                refine wpAnyH_ready (rs := [12]) (by kernel_rfl) (by simp) ?_
                refine AllReadyH.cons (by rfl) (fun K hK => ?_) ?_
                · go_simp
                  with_reducible refine (HC2.out _ HR7.out).mono ?_
                  rintro e w108 ⟨y8s, y8a, y8l, y8c, y8b, y8k, y8e, rfl, HS8, V8⟩
                  have HR8 := Lib.hid (HR7.out.trans HS8.out)
                  have V8_0 := Lib.hid (HS8.out.vq HR7.out.bench V7_0.out)
                  have B8_0 := Lib.hid (B7.out.room HS8.out (by have := HBB6.out; have := HR1.out.g.size; omega))
                  clear hHeld
                  refine hK.out _ _ ?_ (fun hHeld => ?_)
                  · exact HK.out _ HR8.out
                  clear hK K
                  try simp only [Act.put, List.setIfInBounds_toArray, List.set_cons_zero, List.set_cons_succ, List.getElem_toArray, List.getElem_cons_zero, List.getElem_cons_succ]
                  refine wpAnyH_ready (rs := [13]) (by kernel_rfl) (by simp) ?_
                  refine AllReadyH.cons (by rfl) (fun K hK => ?_) ?_
                  · go_simp
                    with_reducible refine (HC3.out _ _ _ _ _ _ _ _ _ _ _ _ _ _ _ HR8.out V8_0.out V8.out).mono ?_
                    rintro e w109 ⟨z9s, z9a, z9l, z9c, z9b, z9k, z9e, rfl, HS9, V9⟩
                    have HR9 := Lib.hid (HR8.out.trans HS9.out)
                    have V9_0 := Lib.hid (HS9.out.vq HR8.out.bench V8_0.out)
                    have V9_1 := Lib.hid (HS9.out.vq HR8.out.bench V8.out)
                    have B9_0 := Lib.hid (B8_0.out.room HS9.out (by have := HBB6.out; have := HR1.out.g.size; omega))
                    clear hHeld
                    refine hK.out _ _ ?_ (fun hHeld => ?_)
                    · exact HK.out _ HR9.out
                    clear hK K
                    try simp only [Act.put, List.setIfInBounds_toArray, List.set_cons_zero, List.set_cons_succ, List.getElem_toArray, List.getElem_cons_zero, List.getElem_cons_succ]
                    have hf := MtAt.endB (x := (x1s, (x1a, x1l, x1c), (x1b, x1k, x1e))) (y := (y8s, (y8a, y8l, y8c), (y8b, y8k, y8e))) (z := (z9s, (z9a, z9l, z9c), (z9b, z9k, z9e))) HR9.out V9.out B9_0.out (by have := HBB6.out; have := HR1.out.g.size; omega) (by have := HBB6.out; have := HR1.out.g.size; omega)
                    obtain ⟨m0, m1, m2, n0, n1, n2⟩ := B9_0.out.cells
                    obtain ⟨k0, k1, k2, k3, k4, k5, k6, k7, k8, k9, k10, k11⟩ := HK.out _ HR9.out
                    have hgm1 : gx ≠ w101.heap.size := by have := HGX.out; have := HR1.out.g.size; omega
                    have hgm2 : gy ≠ w101.heap.size := by have := HGX.out; have := HR1.out.g.size; omega
                    try dsimp only [Go.Proofs.YtknackfmepkiaaaGreatDoor.set3] at hf
                    have HF := Lib.hid hf
                    clear hf
                    refine wpAnyH_ready (rs := [15]) (by kernel_rfl) (by simp) ?_
                    refine AllReadyH.cons (by rfl) (fun K hK => ?_) AllReadyH.nil
                    go_simp
                    refine hK.out _ _ ?_ (fun hHeld => ?_)
                    · exact HK.out _ HF.out.room
                    clear hK K
                    try simp only [Act.put, List.setIfInBounds_toArray, List.set_cons_zero, List.set_cons_succ, List.getElem_toArray, List.getElem_cons_zero, List.getElem_cons_succ]
                    refine wpAnyH_done (by kernel_rfl) ?_ _
                    refine OnlyEx.mk' ?_
                    with_reducible refine ⟨_, ?_, HF.out⟩
                    simp only [puts, Act.put, List.setIfInBounds_toArray, List.set_cons_zero, List.set_cons_succ]
                  exact AllReadyH.nil
                exact AllReadyH.nil
              exact AllReadyH.nil
            refine AllReadyH.cons (by rfl) (fun K hK => ?_) ?_
            · go_simp
              have HR10 := Lib.hid ((show Room b w6 (w6.alloc (.cells #[.bool false, .slice none 0 0, .slice none 0 0] 30)).drew from HRB.out.kept (Below.drewN' ((Below.refl w6.heap.size w6).alloc (Nat.le_refl _) (.cells #[.bool false, .slice none 0 0, .slice none 0 0] 30)) 1)))
              have B10 : Hid (Blank (w6.alloc (.cells #[.bool false, .slice none 0 0, .slice none 0 0] 30)).drew (w6.heap.size)) := Lib.hid (heap_alloc_new _ _)
              refine hK.out _ _ ?_ (fun hHeld => ?_)
              · exact HK.out _ HR10.out
              clear hK K
              try simp only [Act.put, List.setIfInBounds_toArray, List.set_cons_zero, List.set_cons_succ, List.getElem_toArray, List.getElem_cons_zero, List.getElem_cons_succ]
              refine wpAnyH_ready (rs := [6]) (by kernel_rfl) (by simp) ?_
              refine AllReadyH.cons (by rfl) (fun K hK => ?_) ?_
              · go_simp
                with_reducible refine (HC1.out _ HR10.out).mono ?_
                rintro e w111 ⟨x11s, x11a, x11l, x11c, x11b, x11k, x11e, rfl, HS11, V11⟩
                have HR11 := Lib.hid (HR10.out.trans HS11.out)
                have B11_0 := Lib.hid (B10.out.room HS11.out (by have := HBB6.out; have := HRD.out.g.size; omega))
                clear hHeld
                refine hK.out _ _ ?_ (fun hHeld => ?_)
                · exact HK.out _ HR11.out
                clear hK K
                try simp only [Act.put, List.setIfInBounds_toArray, List.set_cons_zero, List.set_cons_succ, List.getElem_toArray, List.getElem_cons_zero, List.getElem_cons_succ]
                refine wpAnyH_ready (rs := [12]) (by kernel_rfl) (by simp) ?_
                refine AllReadyH.cons (by rfl) (fun K hK => ?_) ?_
                · go_simp
                  with_reducible refine (HC2.out _ HR11.out).mono ?_
                  rintro e w112 ⟨y12s, y12a, y12l, y12c, y12b, y12k, y12e, rfl, HS12, V12⟩
                  have HR12 := Lib.hid (HR11.out.trans HS12.out)
                  have V12_0 := Lib.hid (HS12.out.vq HR11.out.bench V11.out)
                  have B12_0 := Lib.hid (B11_0.out.room HS12.out (by have := HBB6.out; have := HRD.out.g.size; omega))
                  clear hHeld
                  refine hK.out _ _ ?_ (fun hHeld => ?_)
                  · exact HK.out _ HR12.out
                  clear hK K
                  try simp only [Act.put, List.setIfInBounds_toArray, List.set_cons_zero, List.set_cons_succ, List.getElem_toArray, List.getElem_cons_zero, List.getElem_cons_succ]
                  refine wpAnyH_ready (rs := [13]) (by kernel_rfl) (by simp) ?_
                  refine AllReadyH.cons (by rfl) (fun K hK => ?_) ?_
                  · go_simp
                    with_reducible refine (HC3.out _ _ _ _ _ _ _ _ _ _ _ _ _ _ _ HR12.out V12_0.out V12.out).mono ?_
                    rintro e w113 ⟨z13s, z13a, z13l, z13c, z13b, z13k, z13e, rfl, HS13, V13⟩
                    have HR13 := Lib.hid (HR12.out.trans HS13.out)
                    have V13_0 := Lib.hid (HS13.out.vq HR12.out.bench V12_0.out)
                    have V13_1 := Lib.hid (HS13.out.vq HR12.out.bench V12.out)
                    have B13_0 := Lib.hid (B12_0.out.room HS13.out (by have := HBB6.out; have := HRD.out.g.size; omega))
                    clear hHeld
                    refine hK.out _ _ ?_ (fun hHeld => ?_)
                    · exact HK.out _ HR13.out
                    clear hK K
                    try simp only [Act.put, List.setIfInBounds_toArray, List.set_cons_zero, List.set_cons_succ, List.getElem_toArray, List.getElem_cons_zero, List.getElem_cons_succ]
                    have hf := MtAt.endB (x := (x11s, (x11a, x11l, x11c), (x11b, x11k, x11e))) (y := (y12s, (y12a, y12l, y12c), (y12b, y12k, y12e))) (z := (z13s, (z13a, z13l, z13c), (z13b, z13k, z13e))) HR13.out V13.out B13_0.out (by have := HBB6.out; have := HRD.out.g.size; omega) (by have := HBB6.out; have := HRD.out.g.size; omega)
                    obtain ⟨m0, m1, m2, n0, n1, n2⟩ := B13_0.out.cells
                    obtain ⟨k0, k1, k2, k3, k4, k5, k6, k7, k8, k9, k10, k11⟩ := HK.out _ HR13.out
                    have hgm1 : gx ≠ w6.heap.size := by have := HGX.out; have := HRD.out.g.size; omega
                    have hgm2 : gy ≠ w6.heap.size := by have := HGX.out; have := HRD.out.g.size; omega
                    try dsimp only [Go.Proofs.YtknackfmepkiaaaGreatDoor.set3] at hf
                    have HF := Lib.hid hf
                    clear hf
                    refine wpAnyH_ready (rs := [15]) (by kernel_rfl) (by simp) ?_
                    refine AllReadyH.cons (by rfl) (fun K hK => ?_) AllReadyH.nil
                    go_simp
                    refine hK.out _ _ ?_ (fun hHeld => ?_)
                    · exact HK.out _ HF.out.room
                    clear hK K
                    try simp only [Act.put, List.setIfInBounds_toArray, List.set_cons_zero, List.set_cons_succ, List.getElem_toArray, List.getElem_cons_zero, List.getElem_cons_succ]
                    refine wpAnyH_done (by kernel_rfl) ?_ _
                    refine OnlyEx.mk' ?_
                    with_reducible refine ⟨_, ?_, HF.out⟩
                    simp only [puts, Act.put, List.setIfInBounds_toArray, List.set_cons_zero, List.set_cons_succ]
                  exact AllReadyH.nil
                exact AllReadyH.nil
              exact AllReadyH.nil
            exact AllReadyH.nil
          case rest =>
            rintro ⟨gm, x', y', ⟨ms, ⟨ma, ml, mc⟩, ⟨mb, mk, me⟩⟩⟩ w7 hF
            obtain ⟨hl, hr, hv, hge⟩ := hF
            dsimp only at hl hv hge
            have HST7 := Lib.hid (HST6.out.step hr HG0.out.2)
            have h7 := hl.cells
            have h8 := HST7.out.lies.cells
            try dsimp only at h7 h8
            obtain ⟨m0, m1, m2, _⟩ := h7
            obtain ⟨l0, l1, l2, n0, n1, n2⟩ := h8
            have hneb : gm ≠ b := by have := HBB6.out; omega
            have HLM := Lib.hid (fun W (h : Room b w7 W) => (hl.room h hneb).cells)
            have HVM := Lib.hid hv
            obtain ⟨cc, hcc⟩ : ∃ cc, cmpQ (atQ p) q = cc := ⟨_, rfl⟩
            have HCC : Hid (Calls Tryz.prog 38 #[.agg #[.bool ms, .slice ma ml mc, .slice mb mk me], .agg #[.bool ls, .slice la ll lc, .slice lb lk le]] w7 (GotV w7 (.int .i64 cc))) := Lib.hid (gotP_cmp hv HST7.out.v (by have := (atQ_sz HOK.out).2.2; omega) (by have := HZK.out; omega) (Below.refl _ _) hcc)
            have hvals := cmpQ_vals (atQ p) q
            rw [hcc] at hvals
            have HCQ := Lib.hid hcc
            clear hl hr hv hge hcc HC1 HC2 HC3 HK HRB HRD HST6 HBB6 HGX HS6
            simp only [puts, Act.put, List.setIfInBounds_toArray, List.set_cons_zero, List.set_cons_succ]
            rcases hvals with rfl | rfl | rfl
            · have HS8 : Hid (∀ W, LstAt b W0 r0 q (ls, (la, ll, lc), (lb, lk, le)) W → VQ (atQ p) (ms, (ma, ml, mc), (mb, mk, me)) W → LstAt b W0 r0 (smallQ ((ts.map F).take (k + 1))) (ms, (ma, ml, mc), (mb, mk, me)) (set3 W r0 ms (.slice ma ml mc) (.slice mb mk me))) := Lib.hid fun W h h2 => by
                rw [HQS.out, HNK.out, stepQ_yes HCM.out, if_pos (cmp_lt.1 HCQ.out)]
                exact h.turn h2 HG0.out.1 HG0.out.2
              go_wp2_with fail
              refine HCC.out.mono ?_
              rintro e w8 ⟨rfl, G8⟩
              have HST8 := Lib.hid (HST7.out.kept G8.out)
              have h7 := HLM.out w8 ((Room.refl HST7.out.room.bench HST7.out.room.tab).kept G8.out)
              have h8 := HST8.out.lies.cells
              try dsimp only at h7 h8
              obtain ⟨m0, m1, m2, _⟩ := h7
              obtain ⟨l0, l1, l2, n0, n1, n2⟩ := h8
              have HE := Lib.hid (HS8.out w8 HST8.out (HVM.out.kept G8.out))
              clear G8 HS8 HST8 HST7 HLM HVM HCC HCQ HCM HNK HQS HZK HZS
              go_wp2_with fail
              go_roundw
              case rel => exact ⟨k + 1, by omega, by go_num, _, HE⟩
              case measure => simp [intOf]; omega
            · have HS8 : Hid (∀ W, LstAt b W0 r0 q (ls, (la, ll, lc), (lb, lk, le)) W → LstAt b W0 r0 (smallQ ((ts.map F).take (k + 1))) (ls, (la, ll, lc), (lb, lk, le)) W) := Lib.hid fun W h => by
                rw [HQS.out, HNK.out, stepQ_yes HCM.out, if_neg (fun h => by have := cmp_lt.2 h; rw [HCQ.out] at this; revert this; decide)]
                exact h
              go_wp2_with fail
              refine HCC.out.mono ?_
              rintro e w8 ⟨rfl, G8⟩
              have HE := Lib.hid (HS8.out w8 (HST7.out.kept G8.out))
              clear G8 HS8 HST7 HLM HVM HCC HCQ HCM HNK HQS HZK HZS l0 l1 l2 m0 m1 m2 n0 n1 n2
              go_wp2_with fail
              go_roundw
              case rel => exact ⟨k + 1, by omega, by go_num, _, HE⟩
              case measure => simp [intOf]; omega
            · have HS8 : Hid (∀ W, LstAt b W0 r0 q (ls, (la, ll, lc), (lb, lk, le)) W → LstAt b W0 r0 (smallQ ((ts.map F).take (k + 1))) (ls, (la, ll, lc), (lb, lk, le)) W) := Lib.hid fun W h => by
                rw [HQS.out, HNK.out, stepQ_yes HCM.out, if_neg (fun h => by have := cmp_lt.2 h; rw [HCQ.out] at this; revert this; decide)]
                exact h
              go_wp2_with fail
              refine HCC.out.mono ?_
              rintro e w8 ⟨rfl, G8⟩
              have HE := Lib.hid (HS8.out w8 (HST7.out.kept G8.out))
              clear G8 HS8 HST7 HLM HVM HCC HCQ HCM HNK HQS HZK HZS l0 l1 l2 m0 m1 m2 n0 n1 n2
              go_wp2_with fail
              go_roundw
              case rel => exact ⟨k + 1, by omega, by go_num, _, HE⟩
              case measure => simp [intOf]; omega
    · obtain rfl : k = ts.length := by omega
      rw [HML.out, List.take_length] at HST
      have HOV := Lib.hid (gotB_over (W5 := wr) (Room.refl HST.out.room.bench HST.out.room.tab))
      go_wp2_with fail
      refine HOV.out.mono ?_
      rintro e w8 ⟨rfl, R8⟩
      have HST8 := Lib.hid (HST.out.step R8.out HG0.out.2)
      have h8 := HST8.out.lies.cells
      try dsimp only at h8
      obtain ⟨l0, l1, l2, _⟩ := h8
      obtain ⟨m0, m1, m2, n0, n1, n2⟩ := HBK.out w8 HST8.out.room
      have HE := Lib.hid (HFIN.out w8 HST8.out.room _ _ _ _ _ _ _ HST8.out.v)
      clear R8 HST8 HST HOV HFIN HBK HZ HNX HLT HR0 HBB HG0 HST0
      go_wp2_with fail
      exact bodyPost_ret (v := .agg #[.bool ls, .slice la ll lc, .slice lb lk le]) (by simp [results, Tryz.results10, go_sem, m0, m1, m2]) rfl HE.out
end Go.Proofs.YtknackfmepkiaaaGreatDoor


/-
  The list of pairs as digits.
-/
set_option linter.unusedVariables false
set_option linter.unusedSimpArgs false
namespace Go.Proofs.YtknackfmepkiaaaGreatDoor
open Go.RowKit Rep


abbrev R4 := RawR × RawR × RawR × RawR
def flat3 (v : RawR) : List Value := [.bool v.1, .slice v.2.1.1 v.2.1.2.1 v.2.1.2.2, .slice v.2.2.1 v.2.2.2.1 v.2.2.2.2]
def flatR (v : R4) : List Value := flat3 v.1 ++ (flat3 v.2.1 ++ (flat3 v.2.2.1 ++ flat3 v.2.2.2))
theorem flatR_len (v : R4) : (flatR v).length = 12 := rfl
theorem flat_len (vs : List R4) : (vs.flatMap flatR).length = vs.length * 12 := by
  induction vs with
  | nil => rfl
  | cons v vs ih => rw [List.flatMap_cons, List.length_append, ih, flatR_len, List.length_cons]; omega
theorem flat_get (vs : List R4) : ∀ (k : Nat) (v : R4), vs[k]? = some v → ∀ j, j < 12 → (vs.flatMap flatR)[k * 12 + j]? = (flatR v)[j]? := by
  induction vs with
  | nil => intro k v h; simp at h
  | cons u vs ih =>
    intro k v h j hj
    rw [List.flatMap_cons]
    rcases k with _ | k
    · simp only [List.getElem?_cons_zero, Option.some.injEq] at h
      subst h
      rw [List.getElem?_append_left (by rw [flatR_len]; omega)]
      congr 1
      omega
    · simp only [List.getElem?_cons_succ] at h
      rw [List.getElem?_append_right (by rw [flatR_len]; omega), flatR_len, ← ih k v h j hj]
      congr 1
      omega
/-- What a pair's digits tell. -/
structure VE (W : World) (v : R4) (p : PQ) : Prop where
  a : VD p.a v.1 W
  b : VD p.b v.2.1 W
  e : VD p.e v.2.2.1 W
  f : VD p.f v.2.2.2 W
theorem VE.kept {W W' : World} {v : R4} {p : PQ} (h : VE W v p) (hb : Below W.heap.size W W') : VE W' v p := ⟨h.a.kept hb, h.b.kept hb, h.e.kept hb, h.f.kept hb⟩
theorem VE.past {W W' : World} {g : Nat} {v : R4} {p : PQ} (h : VE W v p) (hn : NoNum W g) (hg : W.grownBy W' (some g)) : VE W' v p := ⟨h.a.past hn hg, h.b.past hn hg, h.e.past hn hg, h.f.past hn hg⟩
theorem VE.room {W W' : World} {b : Nat} {v : R4} {p : PQ} (h : VE W v p) (hb : Bench W b 1000 false) (k : Room b W W') : VE W' v p := ⟨k.vd hb h.a, k.vd hb h.b, k.vd hb h.e, k.vd hb h.f⟩
structure DL (W : World) (g : Nat) (vs : List R4) (ps : List PQ) : Prop where
  len : vs.length = ps.length
  cells : ∀ j u, (vs.flatMap flatR)[j]? = some u → W.cell? ⟨g, j, none⟩ = some u
  vals : ∀ (k : Nat) (v : R4) (p : PQ), vs[k]? = some v → ps[k]? = some p → VE W v p
theorem DL.kept {W W' : World} {g : Nat} {vs : List R4} {ps : List PQ} (h : DL W g vs ps) (hb : Below W.heap.size W W') : DL W' g vs ps :=
  ⟨h.len, fun j u hu => by have h1 := h.cells j u hu; rw [hb.cell (World.block_lt_of_cell? _ _ h1)]; exact h1, fun k v p hv hp => (h.vals k v p hv hp).kept hb⟩
theorem DL.room {W W' : World} {b g : Nat} {vs : List R4} {ps : List PQ} (h : DL W g vs ps) (hb : Bench W b 1000 false) (hr : Room b W W') : DL W' g vs ps := by
  refine ⟨h.len, fun j u hu => hr.cell (h.cells j u hu) fun e => ?_, fun k v p hv hp => (h.vals k v p hv hp).room hb hr⟩
  subst e
  have hj := (List.getElem?_eq_some_iff.1 hu).1
  rw [flat_len] at hj
  have h3 := h.cells 0 (.bool (vs[0]'(by omega)).1.1) ((flat_get vs 0 _ (List.getElem?_eq_getElem (by omega)) 0 (by omega)).trans rfl)
  unfold Bench at hb
  simp only [World.cell?, hb] at h3
  simp at h3
theorem DL.at {W : World} {g : Nat} {vs : List R4} {ps : List PQ} (h : DL W g vs ps) {k : Nat} {v : R4} (hk : vs[k]? = some v) : W.cell? ⟨g, k * 12, none⟩ = some (.bool v.1.1) ∧ W.cell? ⟨g, k * 12 + 1, none⟩ = some (.slice v.1.2.1.1 v.1.2.1.2.1 v.1.2.1.2.2) ∧ W.cell? ⟨g, k * 12 + 2, none⟩ = some (.slice v.1.2.2.1 v.1.2.2.2.1 v.1.2.2.2.2) ∧ W.cell? ⟨g, k * 12 + 3, none⟩ = some (.bool v.2.1.1) ∧ W.cell? ⟨g, k * 12 + 4, none⟩ = some (.slice v.2.1.2.1.1 v.2.1.2.1.2.1 v.2.1.2.1.2.2) ∧ W.cell? ⟨g, k * 12 + 5, none⟩ = some (.slice v.2.1.2.2.1 v.2.1.2.2.2.1 v.2.1.2.2.2.2) ∧ W.cell? ⟨g, k * 12 + 6, none⟩ = some (.bool v.2.2.1.1) ∧ W.cell? ⟨g, k * 12 + 7, none⟩ = some (.slice v.2.2.1.2.1.1 v.2.2.1.2.1.2.1 v.2.2.1.2.1.2.2) ∧ W.cell? ⟨g, k * 12 + 8, none⟩ = some (.slice v.2.2.1.2.2.1 v.2.2.1.2.2.2.1 v.2.2.1.2.2.2.2) ∧ W.cell? ⟨g, k * 12 + 9, none⟩ = some (.bool v.2.2.2.1) ∧ W.cell? ⟨g, k * 12 + 10, none⟩ = some (.slice v.2.2.2.2.1.1 v.2.2.2.2.1.2.1 v.2.2.2.2.1.2.2) ∧ W.cell? ⟨g, k * 12 + 11, none⟩ = some (.slice v.2.2.2.2.2.1 v.2.2.2.2.2.2.1 v.2.2.2.2.2.2.2) := by
  have hc := fun j (hj : j < 12) u (hu : (flatR v)[j]? = some u) => h.cells (k * 12 + j) u ((flat_get vs k v hk j hj).trans hu)
  exact ⟨hc 0 (by omega) _ rfl, hc 1 (by omega) _ rfl, hc 2 (by omega) _ rfl, hc 3 (by omega) _ rfl, hc 4 (by omega) _ rfl, hc 5 (by omega) _ rfl, hc 6 (by omega) _ rfl, hc 7 (by omega) _ rfl, hc 8 (by omega) _ rfl, hc 9 (by omega) _ rfl, hc 10 (by omega) _ rfl, hc 11 (by omega) _ rfl⟩
theorem list_letters {w : World} {g : Nat} {vs : List R4} {ps : List PQ} (h : DL w g vs ps) (k : Nat) (hk : k < ps.length) : ∃ xs xa xl xc xb xk xe us ua ul uc ub uk ue ys ya yl yc yb yk ye vs' va vl vc vb vk ve, (∀ W, Below w.heap.size w W → (W.cell? ⟨g, k * 12, none⟩ = some (.bool xs) ∧ W.cell? ⟨g, k * 12 + 1, none⟩ = some (.slice xa xl xc) ∧ W.cell? ⟨g, k * 12 + 2, none⟩ = some (.slice xb xk xe) ∧ W.cell? ⟨g, k * 12 + 3, none⟩ = some (.bool us) ∧ W.cell? ⟨g, k * 12 + 4, none⟩ = some (.slice ua ul uc) ∧ W.cell? ⟨g, k * 12 + 5, none⟩ = some (.slice ub uk ue) ∧ W.cell? ⟨g, k * 12 + 6, none⟩ = some (.bool ys) ∧ W.cell? ⟨g, k * 12 + 7, none⟩ = some (.slice ya yl yc) ∧ W.cell? ⟨g, k * 12 + 8, none⟩ = some (.slice yb yk ye) ∧ W.cell? ⟨g, k * 12 + 9, none⟩ = some (.bool vs') ∧ W.cell? ⟨g, k * 12 + 10, none⟩ = some (.slice va vl vc) ∧ W.cell? ⟨g, k * 12 + 11, none⟩ = some (.slice vb vk ve))) ∧ (∀ W, Below w.heap.size w W → (VD ps[k].a (xs, (xa, xl, xc), (xb, xk, xe)) W ∧ VD ps[k].b (us, (ua, ul, uc), (ub, uk, ue)) W ∧ VD ps[k].e (ys, (ya, yl, yc), (yb, yk, ye)) W ∧ VD ps[k].f (vs', (va, vl, vc), (vb, vk, ve)) W)) := by
  have hk2 : k < vs.length := by rw [h.len]; exact hk
  have hv := List.getElem?_eq_getElem hk2
  generalize vs[k] = v at hv
  obtain ⟨⟨xs, ⟨xa, xl, xc⟩, ⟨xb, xk, xe⟩⟩, ⟨us, ⟨ua, ul, uc⟩, ⟨ub, uk, ue⟩⟩, ⟨ys, ⟨ya, yl, yc⟩, ⟨yb, yk, ye⟩⟩, ⟨vs', ⟨va, vl, vc⟩, ⟨vb, vk, ve⟩⟩⟩ := v
  refine ⟨_, _, _, _, _, _, _, _, _, _, _, _, _, _, _, _, _, _, _, _, _, _, _, _, _, _, _, _, fun W hb => (h.kept hb).at hv, fun W hb => ?_⟩
  have := (h.kept hb).vals k _ _ hv (List.getElem?_eq_getElem hk)
  exact ⟨this.a, this.b, this.e, this.f⟩
end Go.Proofs.YtknackfmepkiaaaGreatDoor

