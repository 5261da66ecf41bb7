/- By program out of: RefInt, RatMakes1, RatMakes. -/
import Derived.Test.YtomoemgoglghlaaGreatDoorMccgjlc
import Derived.ArgAppend
import Derived.Test.YtomoemgoglghlaaGreatDoorMpakloe
/-
  append onto a slice of one's own, told whether the block is new; the document's Int.
-/
set_option linter.unusedVariables false
set_option linter.unusedSimpArgs false
namespace Go.Proofs.YtomoemgoglghlaaGreatDoor
open Go.RowKit Rep

theorem set_take {l : List Value} {n : Nat} {v : Value} (h : n < l.length) : (l.set n v).take (n + 1) = l.take n ++ [v] := by
  apply List.ext_getElem?
  intro i
  rw [List.getElem?_take, List.getElem?_set]
  by_cases h1 : i < n
  · rw [List.getElem?_append_left (by rw [List.length_take]; omega), List.getElem?_take, if_pos (by omega), if_neg (by omega), if_pos h1]
  · by_cases h2 : i = n
    · subst h2
      rw [List.getElem?_append_right (by rw [List.length_take]; omega), List.length_take, Nat.min_eq_left (by omega)]
      simp [h]
    · rw [if_neg (by omega), List.getElem?_eq_none (by rw [List.length_append, List.length_take]; simp; omega)]
theorem Row.push {E : TypeId} {w : World} {g cap : Nat} {vs : List Value} (h : Row E w g cap vs) (hl : vs.length + 1 ≤ cap) (v : Value) : Row E (w.setCell ⟨g, vs.length, none⟩ v) g cap (vs ++ [v]) := by
  obtain ⟨cur, hh, hs, hle, ht⟩ := h
  refine ⟨cur.setIfInBounds vs.length v, ?_, by simp [hs], by simp; omega, ?_⟩
  · simp only [World.setCell, Array.getElem?_modify]
    simp [hh]
  · have hlt : vs.length < cur.toList.length := by simp only [Array.length_toList]; omega
    rw [Array.toList_setIfInBounds, List.length_append, List.length_singleton, set_take hlt, ht]
theorem wpList_append_new {P : Program} (w : World) {ops : Array Oper} {rest : List Oper} {o : Oper} {a : Act} {Q : Exit → Act → World → Prop} (hgd : o.guard = none) (s x : Operand) (t : TypeId)
    (ho : o.op = .call { callee := .builtin .append, args := #[s, x], argTypes := #[t, t] }) (e : TypeId) (z : Value) (bts : Nat) (ht : P.underlying t = some (.slice e))
    (hi : (P.info? e).map (fun i => (i.zero, i.size, i.bytes)) = some (some z, 1, bts)) (hz1 : z.cells.size = 1)
    (f : Nat → Value) (B : Nat) (aa : Option Addr) (n cap : Nat) (xs : List Nat) (hs : a.eval s = .slice aa n cap) (hown : OwnR e f B w aa cap xs) (hn : xs.length = n)
    (ax : Addr) (c d : Nat) (hx : a.eval x = .slice (some ax) 1 c) (hr : w.cell? ax = some (f d)) (h1 : (f d).oneCell' = true)
    (hmax : n + 1 ≤ maxLen) (hb : (n + 1) * bts ≤ 140737488355328)
    (h : ∀ g' cap' w', Row e w' g' cap' ((xs ++ [d]).map f) → cap' ≤ maxLen → w.grownBy w' (blk aa) → (blk aa = some g' ∨ w.heap.size ≤ g') → wpList P ops Q rest (a.put o.dst (.slice (some ⟨g', 0, none⟩) (n + 1) cap')) w') : wpList P ops Q (o :: rest) a w := by
  obtain ⟨i, h2, h3, h4, h5⟩ := info_parts hi
  have hcell : ∀ j u, [f d][j]? = some u → w.cell? (ax.add j) = some u := by
    intro j u hu
    rcases j with _ | j
    · simp only [List.getElem?_cons_zero, Option.some.injEq] at hu
      subst hu
      simpa [Addr.add] using hr
    · simp at hu
  have hone : ∀ u ∈ [f d], u.oneCell' = true := by simpa using h1
  have fin : ∀ v' w', w'.ownsRow w.heap.size e 1 v' (n + 1) (xs.map f ++ [f d]) → w.grownBy w' none → wpList P ops Q rest (a.put o.dst v') w' := by
    intro v' w' a1 a2
    obtain ⟨hl, ⟨e1, e2⟩ | ⟨g', cap', cur, rfl, hb', hh, hnc, hcm, hcs, htake⟩⟩ := a1
    · omega
    · refine h g' cap' w' ⟨cur, hh, by omega, by simp; omega, ?_⟩ hcm ⟨a2.os, a2.tape, a2.output, a2.size, fun k hk _ => a2.block k hk (by simp)⟩ (.inr hb')
      rw [List.map_append, List.length_append, List.length_map, hn]
      rw [Nat.mul_one] at htake
      exact htake
  obtain ⟨hc, ⟨rfl, rfl, rfl⟩ | ⟨g, rfl, hg, hrow⟩⟩ := hown
  · obtain rfl : n = 0 := by simpa using hn.symm
    exact wpList_append_grows w hgd s x t ho e i z 1 bts ht h2 h3 h4 h5 hz1 (by decide) none 0 0 [] hs (fun _ => ⟨rfl, rfl⟩) rfl (fun b hb => by cases hb) ax 1 c [f d] hx rfl hcell hone (by omega) hmax hb fin
  · have hlen : (xs.map f).length = n := by rw [List.length_map, hn]
    refine wpList_append_arg w hgd s x t ho e i z 1 bts ht h2 h3 h4 h5 hz1 (by decide) g 0 n cap (xs.map f) hs (by rw [hlen, Nat.mul_one]) (fun j u hu => by rw [Nat.zero_add]; exact hrow.cell j u hu) ax 1 c [f d] hx rfl hcell hone ?_ hmax hb ?_ (fun _ => fin)
    · intro hroom j hj
      obtain rfl : j = 0 := by simpa using hj
      obtain ⟨cur, hh, hcs, _, _⟩ := hrow
      refine ⟨?_, ?_⟩
      · simp only [World.cell?, hh, Nat.zero_add, Nat.mul_one, Nat.add_zero]
        rw [Array.getElem?_eq_getElem (by omega)]
        rfl
      · simp [World.frozen?, hh]
    · intro hroom
      have hp := hrow.push (by rw [hlen]; omega) (f d)
      rw [hlen] at hp
      have he : w.setCells g (0 + n * 1) [f d] = w.setCell ⟨g, n, none⟩ (f d) := by rw [Nat.zero_add, Nat.mul_one]; rfl
      rw [he]
      exact h g cap _ (by rw [List.map_append]; exact hp) hc (grownBy_set (grown_refl w _)) (.inl rfl)

/-- A small number. -/
def qI (n : Int) : Rat := mkQ (decide (n < 0)) n.natAbs 1
theorem qI_parts (n : Int) : ngQ (qI n) = decide (n < 0) ∧ mgQ (qI n) = n.natAbs ∧ (qI n).den = 1 := by
  obtain ⟨a, b⟩ := mkQ_cop (decide (n < 0)) (n := n.natAbs) (d := 1) (by omega) (Nat.gcd_one_right _)
  refine ⟨?_, a, b⟩
  unfold qI
  rw [mkQ_ng _ _ (by omega)]
  split
  · rename_i h; rw [decide_eq_false (by omega)]
  · rfl
/-- Some of the digits are there. -/
structure IntAt (w : World) (N : Nat) (neg : Bool) (k : Nat) (a : Option Addr) (c : Nat) (O : List Nat) (wr : World) : Prop where
  at' : wr.heap[w.heap.size + 1 + 1 + 1]? = some (.cells #[.bool neg, .slice a O.length c, .slice (some ⟨w.heap.size + 1 + 1, 0, none⟩) 1 1] 34 (0, 0))
  dig : D N = O ++ D k
  own : OwnR 3 i64v (w.heap.size + 1) wr a c O
  ne : blk a ≠ some (w.heap.size + 1 + 1 + 1)
  one : DAt wr (some ⟨w.heap.size + 1 + 1, 0, none⟩) 1 1
  ne1 : blk a ≠ some (w.heap.size + 1 + 1)
  below : Below w.heap.size w wr
  res : BlankD wr w.heap.size
theorem IntAt.start (w : World) (N : Nat) (neg : Bool) : IntAt w N neg N (some ⟨w.heap.size + 1, 0, none⟩) 0 []
    ((((w.alloc (.cells #[.bool false, .slice none 0 0, .slice none 0 0] 34)).alloc (.cells #[] 3)).alloc (.cells #[.int .i64 1] 3)).alloc (.cells #[.bool neg, .slice (some ⟨w.heap.size + 1, 0, none⟩) 0 0, .slice (some ⟨w.heap.size + 1 + 1, 0, none⟩) 1 1] 34)) := by
  refine ⟨?_, rfl, ⟨by simp [maxLen], .inr ⟨_, rfl, Nat.le_refl _, ?_⟩⟩, by simp [blk], ⟨?_, by decide, by simp [maxLen]⟩, by simp [blk], ?_, ?_⟩
  · have := heap_alloc_new (((w.alloc (.cells #[.bool false, .slice none 0 0, .slice none 0 0] 34)).alloc (.cells #[] 3)).alloc (.cells #[.int .i64 1] 3)) (.cells #[.bool neg, .slice (some ⟨w.heap.size + 1, 0, none⟩) 0 0, .slice (some ⟨w.heap.size + 1 + 1, 0, none⟩) 1 1] 34)
    simpa using this
  · have := ((Row.new (E := 3) (w.alloc (.cells #[.bool false, .slice none 0 0, .slice none 0 0] 34)) #[]).alloc (.cells #[.int .i64 1] 3)).alloc (.cells #[.bool neg, .slice (some ⟨w.heap.size + 1, 0, none⟩) 0 0, .slice (some ⟨w.heap.size + 1 + 1, 0, none⟩) 1 1] 34)
    simpa using this
  · have h := (Row.new (E := 3) ((w.alloc (.cells #[.bool false, .slice none 0 0, .slice none 0 0] 34)).alloc (.cells #[] 3)) #[.int .i64 1]).alloc (.cells #[.bool neg, .slice (some ⟨w.heap.size + 1, 0, none⟩) 0 0, .slice (some ⟨w.heap.size + 1 + 1, 0, none⟩) 1 1] 34)
    simpa [i64v, D_one] using h.reads0
  · exact ((((Below.refl _ _).alloc (Nat.le_refl _) _).alloc (by simp) _).alloc (by simp; omega) _).alloc (by simp; omega) _
  · unfold BlankD
    rw [Below.heap_alloc _ _ _ (by simp; omega), Below.heap_alloc _ _ _ (by simp; omega), Below.heap_alloc _ _ _ (by simp)]
    exact heap_alloc_new w _
theorem IntAt.next {w wr w' : World} {N k d k' c g' cap' : Nat} {neg : Bool} {a : Option Addr} {O : List Nat} {ob : Obj} (h : IntAt w N neg k a c O wr) (hk : 0 < k) (hd : d = k % 10) (hk' : k' = k / 10)
    (hrow : Row 3 w' g' cap' ((O ++ [d]).map i64v)) (hcap : cap' ≤ maxLen) (hgrow : (wr.alloc ob).grownBy w' (blk a)) (hg' : blk a = some g' ∨ (wr.alloc ob).heap.size ≤ g') :
    IntAt w N neg k' (some ⟨g', 0, none⟩) cap' (O ++ [d]) (w'.setCell ⟨w.heap.size + 1 + 1 + 1, 1, none⟩ (.slice (some ⟨g', 0, none⟩) (O.length + 1) cap')) ∧
    w'.cell? ⟨w.heap.size + 1 + 1 + 1, 1, none⟩ = some (.slice a O.length c) ∧ w'.frozen? ⟨w.heap.size + 1 + 1 + 1, 1, none⟩ = false := by
  have hlt : w.heap.size + 1 + 1 + 1 < wr.heap.size := (Array.getElem?_eq_some_iff.1 h.at').1
  have hba : Below wr.heap.size wr (wr.alloc ob) := (Below.refl _ _).alloc (Nat.le_refl _) _
  have h1 : w'.heap[w.heap.size + 1 + 1 + 1]? = some (.cells #[.bool neg, .slice a O.length c, .slice (some ⟨w.heap.size + 1 + 1, 0, none⟩) 1 1] 34 (0, 0)) :=
    (hgrow.block _ (by simp; omega) (Ne.symm h.ne)).trans ((hba.block _ hlt).trans h.at')
  have g1 : g' ≠ w.heap.size + 1 + 1 + 1 := by
    rcases hg' with e | e
    · intro h2; rw [h2] at e; exact h.ne e
    · simp at e; omega
  have g2 : g' ≠ w.heap.size + 1 + 1 := by
    rcases hg' with e | e
    · intro h2; rw [h2] at e; exact h.ne1 e
    · simp at e; omega
  have g3 : w.heap.size + 1 ≤ g' := by
    rcases hg' with e | e
    · exact h.own.blk_ge e
    · simp at e; omega
  have hs := grownBy_set (grown_refl w' (some (w.heap.size + 1 + 1 + 1))) (i := 1) (u := .slice (some ⟨g', 0, none⟩) (O.length + 1) cap')
  have hbl : blk a ≠ some w.heap.size := fun e => by have := h.own.blk_ge e; omega
  refine ⟨⟨?_, ?_, ⟨hcap, .inr ⟨g', rfl, g3, hrow.other _ _ (by simpa using g1)⟩⟩, by simpa [blk] using g1, ?_, by simpa [blk] using g2, ?_, ?_⟩, ?_, ?_⟩
  · simp [World.setCell, Array.getElem?_modify, h1]
  · rw [h.dig, D_cons hk, hd, hk', List.append_assoc]; rfl
  · refine ⟨?_, h.one.2⟩
    have r1 := (h.one.1.kept hba).grown hgrow (.inr fun g off e => by cases e; exact Ne.symm h.ne1)
    exact r1.grown hs (.inr fun g off e => by cases e; simp)
  · exact ((h.below.trans (hba.mono h.below.size)).grown hgrow (by simp; have := h.below.size; omega) (fun k hk => by have := h.own.blk_ge hk; omega)).setCell (by simp; omega) _
  · have r := h.res
    unfold BlankD at r ⊢
    rw [Below.heap_setCell _ _ _ _ (by simp; omega)]
    exact (hgrow.block _ (by simp; omega) (Ne.symm hbl)).trans ((hba.block _ (by omega)).trans r)
  · simp [World.cell?, h1]
  · simp [World.frozen?, h1]
theorem IntAt.ends {w wr : World} {N c : Nat} {neg : Bool} {a : Option Addr} {O : List Nat} (h : IntAt w N neg 0 a c O wr) :
    O.length = (D N).length ∧ GivesDR neg N 1 w (.returned (ratV neg (.slice a O.length c) (.slice (some ⟨w.heap.size + 1 + 1, 0, none⟩) 1 1))) (set3 wr w.heap.size neg (.slice a O.length c) (.slice (some ⟨w.heap.size + 1 + 1, 0, none⟩) 1 1)) := by
  have e : D N = O := by rw [h.dig, D_zero, List.append_nil]
  have hle := h.own.le
  have hat : DAt wr a c N := ⟨by rw [e]; exact h.own.reads, by rw [e]; exact hle, h.own.1⟩
  refine ⟨by rw [e], a, c, _, 1, by rw [e, D_one]; rfl, hat.set3 h.res _ _ _, h.one.set3 h.res _ _ _, set3_below h.below (Nat.le_refl _)⟩

set_option maxRecDepth 100000 in
set_option maxHeartbeats 4000000 in
theorem IntD_any (n : Int) (w : World) (h1 : -4611686018427387904 < n) (h2 : n ≤ 9223372036854775807) : Calls Tryz.prog 30 #[.int .i64 n] w (GivesDQ (qI n) w) := by
  obtain ⟨N, hN⟩ : ∃ N : Nat, N = n.natAbs := ⟨_, rfl⟩
  have HQ : Hid (∀ e w', GivesDR (decide (n < 0)) N 1 w e w' → GivesDQ (qI n) w e w') := Lib.hid fun e w' hg => by
    obtain ⟨a, b, c⟩ := qI_parts n
    exact hg.q a (by rw [b, hN]) c
  have HS := Lib.hid (IntAt.start w N (decide (n < 0)))
  have hNb : N ≤ 9223372036854775807 := by omega
  rcases Int.lt_or_le n 0 with hneg | hneg
  · have hd : decide (n < 0) = true := decide_eq_true hneg
    rw [hd] at HS HQ
    have hw : -n = (N : Int) := by omega
    clear hN
    go_enter Tryz.func30, Tryz.ntmps30
    go_wp2_with fail
    go_loopw [0] (fun v wr => ∃ (k : Nat) (a : Option Addr) (c : Nat) (O : List Nat), v = .int .i64 k ∧ k ≤ N ∧ IntAt w N true k a c O wr) (fun v _ => (intOf v).toNat)
    case atStart => exact ⟨N, _, 0, [], rfl, Nat.le_refl _, HS.out⟩
    case round =>
      obtain ⟨k, a, c, O, rfl, hkN, hin⟩ := hrel
      clear HS
      rcases Nat.eq_zero_or_pos k with h0 | h0
      · subst h0
        obtain ⟨m0, m1, m2, _⟩ := cells3 hin.at'
        obtain ⟨r0, r1, r2, q0, q1, q2⟩ := hin.res.cells
        have HE := Lib.hid (HQ.out _ _ hin.ends.2)
        clear hin HQ
        go_wp2_with fail
        exact bodyPost_ret (v := ratV true (.slice a O.length c) (.slice (some ⟨w.heap.size + 1 + 1, 0, none⟩) 1 1)) (by simp [results, Tryz.results30, go_sem, ratV, r0, r1, r2]) rfl HE.out
      · have h0i : (0 : Int) < (k : Int) := by omega
        have h0d : decide ((0 : Int) < (k : Int)) = true := decide_eq_true h0i
        have h0e : decide (0 < k) = true := decide_eq_true h0
        obtain ⟨m0, m1, m2, _⟩ := cells3 hin.at'
        obtain ⟨d, hd⟩ : ∃ d, d = k % 10 := ⟨_, rfl⟩
        obtain ⟨k', hk'⟩ : ∃ k', k' = k / 10 := ⟨_, rfl⟩
        have e1 : (k : Int) % 10 = (d : Int) := by omega
        have e2 : (k : Int) / 10 = (k' : Int) := by omega
        have hOl : O.length ≤ 100 := by
          have h := congrArg List.length hin.dig
          rw [List.length_append] at h
          have := (D_len N 100).2 (by have : (9223372036854775807 : Nat) < 10 ^ 100 := by decide
                                      omega)
          omega
        have hlt := (Array.getElem?_eq_some_iff.1 hin.at').1
        have ho1 := hin.own.kept ((Below.refl wr.heap.size wr).alloc (Nat.le_refl _) (.cells #[.int .i64 (d : Int)] 3))
        have hcell : (wr.alloc (.cells #[.int .i64 (d : Int)] 3)).cell? ⟨wr.heap.size, 0, none⟩ = some (i64v d) := (Row.new (E := 3) wr #[.int .i64 (d : Int)]).cell 0 _ rfl
        have HIN := Lib.hid hin
        have HD := Lib.hid hd
        have HK := Lib.hid hk'
        clear hin hd hk'
        go_wp2_with (first | (at_builtin; refine wpList_append_new _ rfl (.tmp 16) (.tmp 19) 32 rfl 3 (.int .i64 0) 8 Tryz.underlying32 info_int rfl i64v (w.heap.size + 1) a _ _ O rfl ho1 rfl ⟨wr.heap.size, 0, none⟩ 1 d rfl hcell rfl (by unfold maxLen; omega) (by omega) ?_; intro g' cap' w' hrow' hcap hgrow hg'; obtain ⟨hn1, hn2, hn3⟩ := HIN.out.next h0 HD.out HK.out hrow' hcap hgrow hg'; have HN := Lib.hid hn1; clear hn1 hrow' hgrow hg' ho1 hcell m0 m1 m2) | fail)
        go_roundw
        case rel => exact ⟨k', some ⟨g', 0, none⟩, cap', O ++ [d], by go_num, by have := HK.out; omega, HN.out⟩
        case measure => have := HK.out; simp [intOf] <;> omega
  · have hd : decide (n < 0) = false := decide_eq_false (by omega)
    rw [hd] at HS HQ
    obtain rfl : n = (N : Int) := by omega
    clear hN
    go_enter Tryz.func30, Tryz.ntmps30
    go_wp2_with fail
    go_loopw [0] (fun v wr => ∃ (k : Nat) (a : Option Addr) (c : Nat) (O : List Nat), v = .int .i64 k ∧ k ≤ N ∧ IntAt w N false k a c O wr) (fun v _ => (intOf v).toNat)
    case atStart => exact ⟨N, _, 0, [], rfl, Nat.le_refl _, HS.out⟩
    case round =>
      obtain ⟨k, a, c, O, rfl, hkN, hin⟩ := hrel
      clear HS
      rcases Nat.eq_zero_or_pos k with h0 | h0
      · subst h0
        obtain ⟨m0, m1, m2, _⟩ := cells3 hin.at'
        obtain ⟨r0, r1, r2, q0, q1, q2⟩ := hin.res.cells
        have HE := Lib.hid (HQ.out _ _ hin.ends.2)
        clear hin HQ
        go_wp2_with fail
        exact bodyPost_ret (v := ratV false (.slice a O.length c) (.slice (some ⟨w.heap.size + 1 + 1, 0, none⟩) 1 1)) (by simp [results, Tryz.results30, go_sem, ratV, r0, r1, r2]) rfl HE.out
      · have h0i : (0 : Int) < (k : Int) := by omega
        have h0d : decide ((0 : Int) < (k : Int)) = true := decide_eq_true h0i
        have h0e : decide (0 < k) = true := decide_eq_true h0
        obtain ⟨m0, m1, m2, _⟩ := cells3 hin.at'
        obtain ⟨d, hd⟩ : ∃ d, d = k % 10 := ⟨_, rfl⟩
        obtain ⟨k', hk'⟩ : ∃ k', k' = k / 10 := ⟨_, rfl⟩
        have e1 : (k : Int) % 10 = (d : Int) := by omega
        have e2 : (k : Int) / 10 = (k' : Int) := by omega
        have hOl : O.length ≤ 100 := by
          have h := congrArg List.length hin.dig
          rw [List.length_append] at h
          have := (D_len N 100).2 (by have : (9223372036854775807 : Nat) < 10 ^ 100 := by decide
                                      omega)
          omega
        have hlt := (Array.getElem?_eq_some_iff.1 hin.at').1
        have ho1 := hin.own.kept ((Below.refl wr.heap.size wr).alloc (Nat.le_refl _) (.cells #[.int .i64 (d : Int)] 3))
        have hcell : (wr.alloc (.cells #[.int .i64 (d : Int)] 3)).cell? ⟨wr.heap.size, 0, none⟩ = some (i64v d) := (Row.new (E := 3) wr #[.int .i64 (d : Int)]).cell 0 _ rfl
        have HIN := Lib.hid hin
        have HD := Lib.hid hd
        have HK := Lib.hid hk'
        clear hin hd hk'
        go_wp2_with (first | (at_builtin; refine wpList_append_new _ rfl (.tmp 16) (.tmp 19) 32 rfl 3 (.int .i64 0) 8 Tryz.underlying32 info_int rfl i64v (w.heap.size + 1) a _ _ O rfl ho1 rfl ⟨wr.heap.size, 0, none⟩ 1 d rfl hcell rfl (by unfold maxLen; omega) (by omega) ?_; intro g' cap' w' hrow' hcap hgrow hg'; obtain ⟨hn1, hn2, hn3⟩ := HIN.out.next h0 HD.out HK.out hrow' hcap hgrow hg'; have HN := Lib.hid hn1; clear hn1 hrow' hgrow hg' ho1 hcell m0 m1 m2) | fail)
        go_roundw
        case rel => exact ⟨k', some ⟨g', 0, none⟩, cap', O ++ [d], by go_num, by have := HK.out; omega, HN.out⟩
        case measure => have := HK.out; simp [intOf] <;> omega
end Go.Proofs.YtomoemgoglghlaaGreatDoor

/-
  ratio.Of; Make's closure; told with it.
-/
set_option linter.unusedVariables false
set_option linter.unusedSimpArgs false
namespace Go.Proofs.YtomoemgoglghlaaGreatDoor
open Go.RowKit Rep


theorem denN_one : denN 1 = 0 := rfl
/-- A result of limbs is written into its block. -/
theorem fin_I {w W0 w' : World} {n : Int} {t : Bool} {a : Option Addr} {c : Nat} (hB0 : Below w.heap.size w W0) (b3 : Blank W0 w.heap.size) (ht : decide (n < 0) = t) (hd : NumAt w' a c n.natAbs) (hb : Below W0.heap.size W0 w') :
    NewQ (qI n) w (.returned (ratV t (.slice a (L n.natAbs).length c) (.slice none 0 0))) (set3 w' w.heap.size t (.slice a (L n.natAbs).length c) (.slice none 0 0)) := by
  obtain ⟨e1, e2, e3⟩ := qI_parts n
  have hat : AtQ w' a c none 0 (qI n) := ⟨by rw [e2]; exact hd, by rw [e3, denN_one]; exact NumAt.zero w'⟩
  refine ⟨a, c, none, 0, ?_, hat.set3 (b3.kept hb).rat _ _ _, set3_below (hB0.trans (hb.mono hB0.size)) (Nat.le_refl _)⟩
  unfold qV
  rw [e1, e2, e3, ht]
  rfl

set_option maxRecDepth 100000 in
set_option maxHeartbeats 2000000 in
theorem OfP_any (n : Int) (w : World) (h1 : -9223372036854775808 ≤ n) (h2 : n ≤ 9223372036854775807) : Calls Tryz.prog 39 #[.int .i64 n] w (NewQ (qI n) w) := by
  obtain ⟨W0, hW0⟩ : ∃ W0, W0 = w.alloc (.cells #[.bool false, .slice none 0 0, .slice none 0 0] 27) := ⟨_, rfl⟩
  have hB0 : Below w.heap.size w W0 := by rw [hW0]; exact (Below.refl _ _).alloc (Nat.le_refl _) _
  have hr0 : Blank W0 w.heap.size := by rw [hW0]; exact heap_alloc_new w _
  obtain ⟨N, hN⟩ : ∃ N : Nat, N = n.natAbs := ⟨_, rfl⟩
  have HO := Lib.hid (of_any N (by omega) W0)
  have HF : Hid (∀ t a c w', decide (n < 0) = t → NumAt w' a c N → Below W0.heap.size W0 w' → NewQ (qI n) w (.returned (ratV t (.slice a (L N).length c) (.slice none 0 0))) (set3 w' w.heap.size t (.slice a (L N).length c) (.slice none 0 0))) := Lib.hid fun t a c w' ht hd hb => by
    subst hN
    exact fin_I hB0 hr0 ht hd hb
  have HK : Hid (∀ w', Below W0.heap.size W0 w' → Blank w' w.heap.size) := Lib.hid fun w' h => hr0.kept h
  have HW0 := Lib.hid hW0
  clear hB0 hr0 hW0
  rcases Int.lt_or_le n 0 with hneg | hneg
  · have hd : decide (n < 0) = true := decide_eq_true hneg
    have HD := Lib.hid hd
    have hu : IntKind.u64.wrap (IntKind.i64.wrap (-n)) = (N : Int) := by
      rcases Int.lt_or_le (-9223372036854775808) n with h | h
      · rw [IntWalk.i64_in _ (by omega)]
        rw [IntWalk.u64_in _ (by omega)]
        omega
      · obtain rfl : n = -9223372036854775808 := by omega
        rw [hN]
        decide
    clear hN
    by_cases hmin : n = -9223372036854775808
    · subst hmin
      have hN2 : N = 9223372036854775808 := by have : ((9223372036854775808 : Int)) = (N : Int) := hu; omega
      subst hN2
      clear hu
      go_enter Tryz.func39, Tryz.ntmps39
      go_wp2_with fail
      rw [← HW0.out, show IntKind.u64.wrap (wrap64 9223372036854775808) = ((9223372036854775808 : Nat) : Int) by kernel_rfl]
      refine HO.out.mono ?_
      rintro e w2 ⟨a, c, rfl, hd2, hb2⟩
      obtain ⟨m0, m1, m2, n0, n1, n2⟩ := (HK.out _ hb2).cells
      have HE := Lib.hid (HF.out true a c w2 HD.out hd2 hb2)
      clear hd2 hb2 HO HF HK HW0
      generalize (L 9223372036854775808).length = len at *
      go_wp2_with fail
      exact bodyPost_ret (v := ratV true (.slice a len c) (.slice none 0 0)) (by simp [results, Tryz.results39, go_sem, ratV, m0, m1, m2]) rfl HE.out
    · have hw : -n = (N : Int) := by
        rw [IntWalk.i64_in _ (by omega), IntWalk.u64_in _ (by omega)] at hu
        exact hu
      have hNb : N ≤ 9223372036854775807 := by omega
      clear hu hmin
      go_enter Tryz.func39, Tryz.ntmps39
      go_wp2_with fail
      rw [← HW0.out]
      refine HO.out.mono ?_
      rintro e w2 ⟨a, c, rfl, hd2, hb2⟩
      obtain ⟨m0, m1, m2, n0, n1, n2⟩ := (HK.out _ hb2).cells
      have HE := Lib.hid (HF.out true a c w2 HD.out hd2 hb2)
      clear hd2 hb2 HO HF HK HW0
      generalize (L N).length = len at *
      go_wp2_with fail
      exact bodyPost_ret (v := ratV true (.slice a len c) (.slice none 0 0)) (by simp [results, Tryz.results39, go_sem, ratV, m0, m1, m2]) rfl HE.out
  · have hd : decide (n < 0) = false := decide_eq_false (by omega)
    have HD := Lib.hid hd
    obtain rfl : n = (N : Int) := by omega
    have hNb : N ≤ 9223372036854775807 := by omega
    clear hN
    go_enter Tryz.func39, Tryz.ntmps39
    go_wp2_with fail
    rw [← HW0.out]
    refine HO.out.mono ?_
    rintro e w2 ⟨a, c, rfl, hd2, hb2⟩
    obtain ⟨m0, m1, m2, n0, n1, n2⟩ := (HK.out _ hb2).cells
    have HE := Lib.hid (HF.out false a c w2 HD.out hd2 hb2)
    clear hd2 hb2 HO HF HK HW0
    generalize (L N).length = len at *
    go_wp2_with fail
    exact bodyPost_ret (v := ratV false (.slice a len c) (.slice none 0 0)) (by simp [results, Tryz.results39, go_sem, ratV, m0, m1, m2]) rfl HE.out

/-- Make, of rational numbers. -/
theorem Make_q {b m n d : Nat} {s : Bool} {a1 a2 : Option Addr} {l1 c1 l2 c2 : Nat} {w : World} (hb : Bench w b m false) (h1 : NumE w a1 l1 c1 n) (h2 : NumE w a2 l2 c2 d) (hT : Tab w) (hl1 : l1 ≤ 1000000) (hl2 : l2 ≤ 1000000) (hd : 0 < d) :
    Calls Tryz.prog 42 #[.pointer (some ⟨b, 0, none⟩), .bool s, .slice a1 l1 c1, .slice a2 l2 c2] w (GivesQ b m (mkQ s n d) w) :=
  (Make_any b m s a1 a2 l1 c1 l2 c2 n d w hb h1 h2 hT hl1 hl2).mono fun e w' hg => hg.q (by rw [mkQ_mg s n hd]; unfold mkN; rw [if_neg (by omega)]) (by rw [mkQ_den s n hd]; unfold mkD; rw [if_neg (by omega)]) (fun hne => by
    rw [mkQ_ng s n hd, if_neg]
    intro h0
    subst h0
    exact hne (by unfold mkN; simp))
theorem Make_0 {b m n : Nat} {s : Bool} {a1 a2 : Option Addr} {l1 c1 l2 c2 : Nat} {w : World} (hb : Bench w b m false) (h1 : NumE w a1 l1 c1 n) (h2 : NumE w a2 l2 c2 0) (hT : Tab w) (hl1 : l1 ≤ 1000000) (hl2 : l2 ≤ 1000000) :
    Calls Tryz.prog 42 #[.pointer (some ⟨b, 0, none⟩), .bool s, .slice a1 l1 c1, .slice a2 l2 c2] w fun e W' => ∃ t z1 m1 k1 z2 m2 k2, e = .returned (.agg #[.bool t, .slice z1 m1 k1, .slice z2 m2 k2]) ∧ Hid (VQ 0 (t, (z1, m1, k1), (z2, m2, k2)) W' ∧ Bench W' b m false ∧ w.grownBy W' (some b)) := by
  refine (Make_any b m s a1 a2 l1 c1 l2 c2 n 0 w hb h1 h2 hT hl1 hl2).mono ?_
  intro e w' hg
  have hq := hg.q (q := 0) (by unfold mkN; rw [if_pos rfl]; rfl) (by unfold mkD; rw [if_pos rfl]; rfl) (fun h => absurd (by unfold mkN; rw [if_pos rfl]) h)
  obtain ⟨x1, y1, x2, y2, rfl, hat, hbe, hgr⟩ := hq
  have ho : ovQ m 0 = false := by unfold ovQ rO; rw [den0]; simp [mg_of_zero, denN_one, L_zero]
  have ho2 : outQ m 0 = 0 := by unfold outQ; split <;> rfl
  rw [ho2] at hat ⊢
  rw [ho] at hbe
  exact ⟨_, x1, _, y1, x2, _, y2, rfl, Lib.hid ⟨⟨rfl, rfl, rfl, hat⟩, hbe, hgr⟩⟩

set_option maxRecDepth 100000 in
set_option maxHeartbeats 4000000 in
theorem closMake {W : World} {b m p1 p2 p3 n d : Nat} {s : Bool} {a1 a2 : Option Addr} {l1 c1 l2 c2 : Nat} (hb : Bench W b m false) (hT : Tab W) (h1 : NumE W a1 l1 c1 n) (h2 : NumE W a2 l2 c2 d) (hl1 : l1 ≤ 1000) (hl2 : l2 ≤ 1000) (hd : 0 < d)
    (f0 : W.cell? ⟨p1, 0, none⟩ = some (.bool s)) (f1 : W.cell? ⟨p2, 0, none⟩ = some (.slice a1 l1 c1)) (f2 : W.cell? ⟨p3, 0, none⟩ = some (.slice a2 l2 c2)) :
    Calls Tryz.prog 44 #[.pointer (some ⟨b, 0, none⟩), .pointer (some ⟨p1, 0, none⟩), .pointer (some ⟨p2, 0, none⟩), .pointer (some ⟨p3, 0, none⟩)] W (GivesQ b m (mkQ s n d) W) := by
  obtain ⟨W0, hW0⟩ : ∃ W0, W0 = W.alloc (.cells #[.bool false, .slice none 0 0, .slice none 0 0] 27) := ⟨_, rfl⟩
  have hB0 : Below W.heap.size W W0 := by rw [hW0]; exact (Below.refl _ _).alloc (Nat.le_refl _) _
  have hbl : Blank W0 W.heap.size := by rw [hW0]; exact heap_alloc_new W _
  have hbb := hb.lt
  have HA := Lib.hid (Make_q (s := s) (hb.kept hB0) (h1.kept hB0) (h2.kept hB0) (hT.kept hB0) (by omega) (by omega) hd)
  have HTH : Hid (∀ e W', GivesQ b m (mkQ s n d) W0 e W' → _) := Lib.hid fun e W' hg => hg.through (grown_of_below hB0 (some b)) (Nat.le_refl _) (by omega) hbl
  have hp1 := World.block_lt_of_cell? _ _ f0
  have hp2 := World.block_lt_of_cell? _ _ f1
  have hp3 := World.block_lt_of_cell? _ _ f2
  dsimp only at hp1 hp2 hp3
  have hn1 : p1 ≠ W.heap.size := by omega
  have hn2 : p2 ≠ W.heap.size := by omega
  have hn3 : p3 ≠ W.heap.size := by omega
  have HW0 := Lib.hid hW0
  clear hW0 hB0 hbl h1 h2 hb hT
  go_enter Tryz.func44, Tryz.ntmps44
  go_wp2_with fail
  rw [← HW0.out]
  refine HA.out.mono ?_
  intro e w1 hg
  obtain ⟨tt, x1, x2, x3, y1, y2, y3, rfl, hbl1, _, hx1⟩ := HTH.out e w1 hg
  obtain ⟨m0, m1, m2, n0, n1, n2⟩ := hbl1.cells
  have HE := Lib.hid hx1
  clear hg hbl1 hx1 HTH HA HW0
  go_wp2_with fail
  exact bodyPost_ret (v := ratV tt (.slice x1 x2 x3) (.slice y1 y2 y3)) (by simp [results, Tryz.results44, go_sem, ratV, m0, m1, m2]) rfl HE.out

/-- The closure's call, in any world of the region. -/
theorem told_do3 {w W0 w1 W : World} {b m : Nat} {q : Rat} {f : FuncId} {p1 p2 p3 : Value} (hw : Below w.heap.size w W0) (eb : b = W0.heap.size) (hb : Bench w1 b m false) (h1 : Below W0.heap.size W0 w1)
    (hdo : ∀ (W : World) (b : Nat), Below w.heap.size w W → Bench W b m false → w.heap.size ≤ b → Calls Tryz.prog f #[.pointer (some ⟨b, 0, none⟩), p1, p2, p3] W (GivesQ b m q W)) (hW : Below w1.heap.size w1 W) :
    Calls Tryz.prog f #[.pointer (some ⟨b, 0, none⟩), p1, p2, p3] W fun e W' => ∃ s x1 l1 k1 x2 l2 k2, e = .returned (.agg #[.bool s, .slice x1 l1 k1, .slice x2 l2 k2]) ∧ Hid (T1 w W0 b m q (s, (x1, l1, k1), (x2, l2, k2)) W') ∧ Hid (W.grownBy W' (some b)) := by
  have hB : Below W0.heap.size W0 W := h1.trans (hW.mono h1.size)
  refine (hdo W b (hw.trans (hB.mono hw.size)) (hb.kept hW) (by have := hw.size; omega)).mono ?_
  rintro e W' ⟨x1, k1, x2, k2, rfl, hx, hbe, hg⟩
  refine ⟨_, x1, _, k1, x2, _, k2, rfl, Lib.hid ⟨⟨rfl, rfl, rfl, hx⟩, hbe, ?_, eb⟩, Lib.hid hg⟩
  exact hB.grown hg hB.size (fun k hk => by cases hk; omega)

set_option maxRecDepth 100000 in
set_option maxHeartbeats 16000000 in
theorem told02_M {w : World} {n : Int} {q : Rat} {cv cu cx : Value} {a1 a2 : Option Addr} {c1 c2 : Nat} (hn : n ≤ 9223372036854775807) (hq : DgQ w a1 c1 a2 c2 q) (hl1 : (D (mgQ q)).length ≤ 1000000) (hl2 : (D q.den).length ≤ 1000000) (hs : szQ q ≤ 10000)
    (hdo : ∀ (m : Nat) (W : World) (b : Nat), max n 1 = (m : Int) → m ≤ maxLen → Below w.heap.size w W → Bench W b m false → w.heap.size ≤ b → Calls Tryz.prog 44 #[.pointer (some ⟨b, 0, none⟩), cv, cu, cx] W (GivesQ b m q W)) :
    Calls Tryz.prog 14 #[.int .i64 n, .func (.func 44) #[] #[cv, cu, cx], dV q a1 c1 a2 c2] w (Holds w) := by
  obtain ⟨m, hm1, hm2, hmx, hnew⟩ := new_for n hn
  have hdo2 := fun W b => hdo m W b hmx hm2
  obtain ⟨W0, hW0⟩ : ∃ W0, W0 = w.alloc (.cells #[.bool (ngQ q), .slice a1 (D (mgQ q)).length c1, .slice a2 (D q.den).length c2] 34) := ⟨_, rfl⟩
  have hB0 : Below w.heap.size w W0 := by rw [hW0]; exact (Below.refl _ _).alloc (Nat.le_refl _) _
  have hk0 : W0.heap[w.heap.size]? = some (.cells #[.bool (ngQ q), .slice a1 (D (mgQ q)).length c1, .slice a2 (D q.den).length c2] 34 (0, 0)) := by rw [hW0]; exact heap_alloc_new w _
  have HNEW : Hid (Calls Tryz.prog 41 #[.int .i64 n] W0 (fun e w1 => e = .returned (.pointer (some ⟨W0.heap.size, 0, none⟩)) ∧ Bench w1 W0.heap.size m false ∧ Below W0.heap.size W0 w1)) := Lib.hid ((hnew W0).mono (by
    rintro e w1 ⟨rfl, rfl⟩
    exact ⟨rfl, GivesBench.bench, (Below.refl _ _).alloc (Nat.le_refl _) _⟩))
  have HK : Hid (∀ W, Below W0.heap.size W0 W → W.cell? ⟨w.heap.size, 0, none⟩ = some (.bool (ngQ q)) ∧ W.cell? ⟨w.heap.size, 1, none⟩ = some (.slice a1 (D (mgQ q)).length c1) ∧ W.cell? ⟨w.heap.size, 2, none⟩ = some (.slice a2 (D q.den).length c2)) := Lib.hid fun W h => by
    obtain ⟨f0, f1, f2, _⟩ := keep3 hk0 W h
    exact ⟨f0, f1, f2⟩
  obtain ⟨p0, p1, p2⟩ := HK.out W0 (Below.refl _ _)
  have HWL : Hid (w.heap.size < W0.heap.size) := Lib.hid (Array.getElem?_eq_some_iff.1 hk0).1
  have HW0 := Lib.hid hW0
  have HQ := Lib.hid (hq.kept hB0)
  have HDO := Lib.hid hdo2
  have HB := Lib.hid hB0
  have HM : Hid (m ≤ 9223372036854775807) := Lib.hid (by unfold maxLen at hm2; omega)
  have HL1 := Lib.hid hl1
  have HL2 := Lib.hid hl2
  have HS := Lib.hid hs
  clear hW0 hB0 hk0 hq hdo hdo2 hnew hm1 hm2 hl1 hl2 hs
  unfold dV ratV
  go_enter Tryz.func14, Tryz.ntmps14
  go_wp2_with fail
  rw [← HW0.out]
  refine HNEW.out.mono ?_
  rintro e w1 ⟨rfl, hbe, hb1⟩
  obtain ⟨p0, p1, p2⟩ := HK.out w1 hb1
  have hlt : W0.heap.size < w1.heap.size := hbe.lt
  obtain ⟨z0, z1, z2, z3⟩ := far HWL.out hb1
  have hne1 : w1.heap.size ≠ W0.heap.size := by omega
  have hne2 : w1.heap.size + 1 ≠ W0.heap.size := by omega
  have hgt2 : W0.heap.size < w1.heap.size + 1 := by omega
  have HDA := Lib.hid (told_do3 (w1 := w1) HB.out rfl hbe hb1 HDO.out (below_drew w1))
  have HDB := Lib.hid (told_do3 (w1 := w1) HB.out rfl hbe hb1 HDO.out (show Below w1.heap.size w1 (w1.alloc (.cells #[.bool false, .slice none 0 0, .slice none 0 0] 27)).drew from Below.drewN' ((Below.refl w1.heap.size w1).alloc (Nat.le_refl _) (.cells #[.bool false, .slice none 0 0, .slice none 0 0] 27)) 1))
  have HDC := Lib.hid (told_do3 (w1 := w1) HB.out rfl hbe hb1 HDO.out (show Below w1.heap.size w1 ((w1.alloc (.cells #[.bool false, .slice none 0 0, .slice none 0 0] 27)).alloc (.cells #[.bool false, .slice none 0 0, .slice none 0 0] 27)).drew from Below.drewN' (((Below.refl w1.heap.size w1).alloc (Nat.le_refl _) (.cells #[.bool false, .slice none 0 0, .slice none 0 0] 27)).alloc (by simp) (.cells #[.bool false, .slice none 0 0, .slice none 0 0] 27)) 1))
  have HZB : Hid (Blank (w1.alloc (.cells #[.bool false, .slice none 0 0, .slice none 0 0] 27)).drew w1.heap.size) := Lib.hid (heap_alloc_new w1 _)
  have HZC : Hid (Blank ((w1.alloc (.cells #[.bool false, .slice none 0 0, .slice none 0 0] 27)).alloc (.cells #[.bool false, .slice none 0 0, .slice none 0 0] 27)).drew w1.heap.size ∧ Blank ((w1.alloc (.cells #[.bool false, .slice none 0 0, .slice none 0 0] 27)).alloc (.cells #[.bool false, .slice none 0 0, .slice none 0 0] 27)).drew (w1.heap.size + 1)) := Lib.hid (by
    refine ⟨?_, ?_⟩
    · exact Blank.kept (heap_alloc_new w1 _) (Below.drewN' ((Below.refl _ _).alloc (Nat.le_refl _) (.cells #[.bool false, .slice none 0 0, .slice none 0 0] 27)) 1)
    · have := heap_alloc_new (w1.alloc (.cells #[.bool false, .slice none 0 0, .slice none 0 0] 27)) (.cells #[.bool false, .slice none 0 0, .slice none 0 0] 27)
      simpa [Blank, World.drew] using this)
  have HE1 : Hid (w1.heap.size ≠ w1.heap.size + 1) := Lib.hid (by omega)
  clear hbe hb1 HDO HNEW HW0
  go_wp2_with fail
  refine wp_region_ex (ι := Nat × Nat × RawR × RawR) (fun i => [(12, .func (.func 44) #[] #[cv, cu, cx]), (13, .pointer (some ⟨W0.heap.size, 0, none⟩)), (14, .agg #[.bool i.2.2.1.1, .slice i.2.2.1.2.1.1 i.2.2.1.2.1.2.1 i.2.2.1.2.1.2.2, .slice i.2.2.1.2.2.1 i.2.2.1.2.2.2.1 i.2.2.1.2.2.2.2]),
    (15, .agg #[.bool (ngQ q), .slice a1 (D (mgQ q)).length c1, .slice a2 (D q.den).length c2]), (16, .agg #[.bool i.2.2.2.1, .slice i.2.2.2.2.1.1 i.2.2.2.2.1.2.1 i.2.2.2.2.1.2.2, .slice i.2.2.2.2.2.1 i.2.2.2.2.2.2.1 i.2.2.2.2.2.2.2]), (8, .pointer (some ⟨i.1, 0, none⟩)), (9, .pointer (some ⟨i.2.1, 0, none⟩))]) (ToldAt w W0 W0.heap.size m q) ?region ?rest
  case region =>
    go_region_held3 (fun w' => w'.cell? ⟨w.heap.size, 0, none⟩ = some (.bool (ngQ q)) ∧ w'.cell? ⟨w.heap.size, 1, none⟩ = some (.slice a1 (D (mgQ q)).length c1) ∧ w'.cell? ⟨w.heap.size, 2, none⟩ = some (.slice a2 (D q.den).length c2)) (first | with_reducible exact HK.out _ hp4 | with_reducible exact HK.out _ hpa | with_reducible exact HK.out _ hpb | with_reducible exact HK.out _ hpc | go_keep)
      (first
        | (go_at_call 44; (with_reducible refine HDA.out.mono ?_); rintro e wa ⟨s, x1, n1, k1, x2, n2, k2, rfl, HTA, HGA⟩; have hpa := HTA.out.below; obtain ⟨q0, q1, q2⟩ := HK.out _ hpa; obtain ⟨u0, u1, u2, u3⟩ := far HWL.out hpa)
        | (go_at_call 44; (with_reducible refine HDB.out.mono ?_); rintro e wb ⟨s, x1, n1, k1, x2, n2, k2, rfl, HTB, HGB⟩; have hpb := HTB.out.below; obtain ⟨q0, q1, q2⟩ := HK.out _ hpb; obtain ⟨u0, u1, u2, u3⟩ := far HWL.out hpb; have HBB := Lib.hid (HZB.out.grown HGB.out hne1))
        | (go_at_call 44; (with_reducible refine HDC.out.mono ?_); rintro e wc ⟨s, x1, n1, k1, x2, n2, k2, rfl, HTC, HGC⟩; have hpc := HTC.out.below; obtain ⟨q0, q1, q2⟩ := HK.out _ hpc; obtain ⟨u0, u1, u2, u3⟩ := far HWL.out hpc; have HC1 := Lib.hid (HZC.out.1.grown HGC.out hne1); have HC2 := Lib.hid (HZC.out.2.grown HGC.out hne2))
        | (go_at_call 33; (with_reducible refine (told_form HTA.out HQ.out HL1.out HL2.out (Below.refl _ _)).mono ?_); rintro e w4 ⟨t, y1, m1, j1, y2, m2, j2, rfl, H2, HG4⟩; have hp4 := H2.out.below; obtain ⟨r0, r1, r2⟩ := HK.out _ hp4; obtain ⟨o0, o1, o2, o3⟩ := far HWL.out hp4; have hf1 := H2.out.end0a; have hf2 := H2.out.end0b; dsimp only [Go.Proofs.YtomoemgoglghlaaGreatDoor.set3] at hf1 hf2; obtain ⟨WA, hWA, hf3⟩ := hf1.split; obtain ⟨WB, hWB, hf4⟩ := hf2.split; have HF1 := Lib.hid hf3; have HF2 := Lib.hid hf4; have HWA := Lib.hid hWA; have HWB := Lib.hid hWB; clear hf1 hf2 hf3 hf4 hWA hWB)
        | (go_at_call 33; (with_reducible refine (told_form HTA.out HQ.out HL1.out HL2.out ((Below.refl wa.heap.size wa).alloc (Nat.le_refl _) (.cells #[.bool false, .slice none 0 0, .slice none 0 0] 27))).mono ?_); rintro e w4 ⟨t, y1, m1, j1, y2, m2, j2, rfl, H2, HG4⟩; have hp4 := H2.out.below; obtain ⟨r0, r1, r2⟩ := HK.out _ hp4; obtain ⟨o0, o1, o2, o3⟩ := far HWL.out hp4; have HX1 := Lib.hid (Blank.kept (heap_alloc_new wa _) HG4.out); have hf1 := (H2.out.end1a HX1.out HTA.out.lt); have hf2 := (H2.out.end1b HX1.out HTA.out.lt); dsimp only [Go.Proofs.YtomoemgoglghlaaGreatDoor.set3] at hf1 hf2; obtain ⟨WA, hWA, hf3⟩ := hf1.split; obtain ⟨WB, hWB, hf4⟩ := hf2.split; have HF1 := Lib.hid hf3; have HF2 := Lib.hid hf4; have HWA := Lib.hid hWA; have HWB := Lib.hid hWB; clear hf1 hf2 hf3 hf4 hWA hWB; obtain ⟨g0, g1, g2, g3, g4, g5⟩ := HX1.out.cells; obtain ⟨v0, v1, v2⟩ := HX1.out.ne)
        | (go_at_call 33; (with_reducible refine (told_form HTA.out HQ.out HL1.out HL2.out (((Below.refl wa.heap.size wa).alloc (Nat.le_refl _) (.cells #[.bool false, .slice none 0 0, .slice none 0 0] 27)).alloc (by simp) (.cells #[.bool false, .slice none 0 0, .slice none 0 0] 27))).mono ?_); rintro e w4 ⟨t, y1, m1, j1, y2, m2, j2, rfl, H2, HG4⟩; have hp4 := H2.out.below; obtain ⟨r0, r1, r2⟩ := HK.out _ hp4; obtain ⟨o0, o1, o2, o3⟩ := far HWL.out hp4; have HX1 := Lib.hid (Blank.kept (Blank.kept (heap_alloc_new wa _) ((Below.refl _ _).alloc (Nat.le_refl _) _)) HG4.out); have HX2 := Lib.hid (blank_second wa HG4.out); have hf1 := (H2.out.end2 HX1.out HX2.out (Nat.ne_of_lt (Nat.lt_succ_self _)) HTA.out.lt (Nat.lt_succ_of_lt HTA.out.lt)); have hf2 := (H2.out.end2 HX2.out HX1.out (Nat.ne_of_gt (Nat.lt_succ_self _)) (Nat.lt_succ_of_lt HTA.out.lt) HTA.out.lt); dsimp only [Go.Proofs.YtomoemgoglghlaaGreatDoor.set3] at hf1 hf2; obtain ⟨WA, hWA, hf3⟩ := hf1.split; obtain ⟨WB, hWB, hf4⟩ := hf2.split; have HF1 := Lib.hid hf3; have HF2 := Lib.hid hf4; have HWA := Lib.hid hWA; have HWB := Lib.hid hWB; clear hf1 hf2 hf3 hf4 hWA hWB; obtain ⟨g0, g1, g2, g3, g4, g5⟩ := HX1.out.cells; obtain ⟨i0, i1, i2, i3, i4, i5⟩ := HX2.out.cells)
        | (go_at_call 33; (with_reducible refine (told_form HTB.out HQ.out HL1.out HL2.out (Below.refl _ _)).mono ?_); rintro e w4 ⟨t, y1, m1, j1, y2, m2, j2, rfl, H2, HG4⟩; have hp4 := H2.out.below; obtain ⟨r0, r1, r2⟩ := HK.out _ hp4; obtain ⟨o0, o1, o2, o3⟩ := far HWL.out hp4; have HX1 := Lib.hid (HBB.out.kept HG4.out); have hf1 := (H2.out.end1a HX1.out hlt); have hf2 := (H2.out.end1b HX1.out hlt); dsimp only [Go.Proofs.YtomoemgoglghlaaGreatDoor.set3] at hf1 hf2; obtain ⟨WA, hWA, hf3⟩ := hf1.split; obtain ⟨WB, hWB, hf4⟩ := hf2.split; have HF1 := Lib.hid hf3; have HF2 := Lib.hid hf4; have HWA := Lib.hid hWA; have HWB := Lib.hid hWB; clear hf1 hf2 hf3 hf4 hWA hWB; obtain ⟨g0, g1, g2, g3, g4, g5⟩ := HX1.out.cells; obtain ⟨v0, v1, v2⟩ := HX1.out.ne)
        | (go_at_call 33; (with_reducible refine (told_form HTB.out HQ.out HL1.out HL2.out ((Below.refl wb.heap.size wb).alloc (Nat.le_refl _) (.cells #[.bool false, .slice none 0 0, .slice none 0 0] 27))).mono ?_); rintro e w4 ⟨t, y1, m1, j1, y2, m2, j2, rfl, H2, HG4⟩; have hp4 := H2.out.below; obtain ⟨r0, r1, r2⟩ := HK.out _ hp4; obtain ⟨o0, o1, o2, o3⟩ := far HWL.out hp4; have HX2 := Lib.hid (Blank.kept (heap_alloc_new wb _) HG4.out); have HX1 := Lib.hid ((HBB.out.kept ((Below.refl _ _).alloc (Nat.le_refl _) _)).kept HG4.out); have hgh : w1.heap.size ≠ wb.heap.size := Nat.ne_of_lt (Array.getElem?_eq_some_iff.1 HBB.out).1; have hhg := Ne.symm hgh; have hf1 := (H2.out.end2 HX1.out HX2.out hgh hlt HTB.out.lt); have hf2 := (H2.out.end2 HX2.out HX1.out hhg HTB.out.lt hlt); dsimp only [Go.Proofs.YtomoemgoglghlaaGreatDoor.set3] at hf1 hf2; obtain ⟨WA, hWA, hf3⟩ := hf1.split; obtain ⟨WB, hWB, hf4⟩ := hf2.split; have HF1 := Lib.hid hf3; have HF2 := Lib.hid hf4; have HWA := Lib.hid hWA; have HWB := Lib.hid hWB; clear hf1 hf2 hf3 hf4 hWA hWB; obtain ⟨g0, g1, g2, g3, g4, g5⟩ := HX1.out.cells; obtain ⟨i0, i1, i2, i3, i4, i5⟩ := HX2.out.cells)
        | (go_at_call 33; (with_reducible refine (told_form HTC.out HQ.out HL1.out HL2.out (Below.refl _ _)).mono ?_); rintro e w4 ⟨t, y1, m1, j1, y2, m2, j2, rfl, H2, HG4⟩; have hp4 := H2.out.below; obtain ⟨r0, r1, r2⟩ := HK.out _ hp4; obtain ⟨o0, o1, o2, o3⟩ := far HWL.out hp4; have HX1 := Lib.hid (HC1.out.kept HG4.out); have HX2 := Lib.hid (HC2.out.kept HG4.out); have hf1 := (H2.out.end2 HX1.out HX2.out HE1.out hlt hgt2); have hf2 := (H2.out.end2 HX2.out HX1.out (Ne.symm HE1.out) hgt2 hlt); dsimp only [Go.Proofs.YtomoemgoglghlaaGreatDoor.set3] at hf1 hf2; obtain ⟨WA, hWA, hf3⟩ := hf1.split; obtain ⟨WB, hWB, hf4⟩ := hf2.split; have HF1 := Lib.hid hf3; have HF2 := Lib.hid hf4; have HWA := Lib.hid hWA; have HWB := Lib.hid hWB; clear hf1 hf2 hf3 hf4 hWA hWB; obtain ⟨g0, g1, g2, g3, g4, g5⟩ := HX1.out.cells; obtain ⟨i0, i1, i2, i3, i4, i5⟩ := HX2.out.cells))
    all_goals
      refine OnlyEx.mk' ?_
      simp only [HWA.out, HWB.out]
      first
        | (with_reducible refine ⟨_, ?_, HF1.out⟩; simp only [puts, Act.put, List.setIfInBounds_toArray, List.set_cons_zero, List.set_cons_succ]; done)
        | (with_reducible refine ⟨_, ?_, HF2.out⟩; simp only [puts, Act.put, List.setIfInBounds_toArray, List.set_cons_zero, List.set_cons_succ]; done)
  case rest =>
    rintro ⟨g, k, ⟨s, ⟨x1, n1, k1⟩, ⟨x2, n2, k2⟩⟩, ⟨t, ⟨y1, m1, j1⟩, ⟨y2, m2, j2⟩⟩⟩ w5 hF
    obtain ⟨hx, hy, hT⟩ := hF
    unfold LiesR at hx hy
    dsimp only at hx hy hT
    have HFI := Lib.hid (told_fits hT HM.out HS.out)
    have HBL := Lib.hid (HB.out.trans (hT.below.mono HB.out.size))
    have HT := Lib.hid hT
    have HKX := Lib.hid (keep3 hx)
    have HKY := Lib.hid (keep3 hy)
    obtain ⟨g0, g1, g2, _⟩ := HKX.out w5 (Below.refl _ _)
    obtain ⟨i0, i1, i2, _⟩ := HKY.out w5 (Below.refl _ _)
    clear hx hy hT HDA HDB HDC HZB HZC HK HQ p0 p1 p2 hlt hne1 hne2 hgt2 HE1 HB HL1 HL2 HM
    simp only [puts, Act.put, List.setIfInBounds_toArray, List.set_cons_zero, List.set_cons_succ]
    obtain ⟨o, ho⟩ : ∃ o, ovQ m q = o := ⟨_, rfl⟩
    rw [ho] at HFI
    have HO := Lib.hid ho
    clear ho
    cases o
    case true =>
      have HOV := Lib.hid (fun W (h : Below w5.heap.size w5 W) => over_any W W0.heap.size m true (by have := HT.out.bench.kept h; rwa [HO.out] at this))
      have HSA := Lib.hid (told_zero HT.out HO.out)
      clear HO HT
      go_wp2_with fail
      refine (HFI.out _).mono ?_
      rintro e w6 ⟨rfl, hb6⟩
      obtain ⟨g0, g1, g2, _⟩ := HKX.out w6 hb6
      have HV6 := Lib.hid (HOV.out w6 hb6)
      have HB6 := Lib.hid (HBL.out.trans (hb6.mono HBL.out.size))
      clear hb6 HOV HKX HKY HFI HBL
      go_wp2_with fail
      refine HV6.out.mono ?_
      rintro e w7 ⟨rfl, rfl⟩
      go_wp2_with fail
      refine (HSA.out _).mono ?_
      rintro e w8 ⟨rfl, hb8⟩
      have HB8 := Lib.hid (HB6.out.trans (hb8.mono HB6.out.size))
      clear hb8 HSA
      go_wp2_with fail
      go_ret
      exact ⟨rfl, HB8.out⟩
    case false =>
      have HOV := Lib.hid (fun W (h : Below w5.heap.size w5 W) => over_any W W0.heap.size m false (by have := HT.out.bench.kept h; rwa [HO.out] at this))
      have HSA := Lib.hid (told_same HT.out HO.out HS.out)
      clear HO HT
      go_wp2_with fail
      refine (HFI.out _).mono ?_
      rintro e w6 ⟨rfl, hb6⟩
      obtain ⟨g0, g1, g2, _⟩ := HKX.out w6 hb6
      obtain ⟨i0, i1, i2, _⟩ := HKY.out w6 hb6
      have HV6 := Lib.hid (HOV.out w6 hb6)
      have HSB := Lib.hid (HSA.out w6 hb6)
      have HB6 := Lib.hid (HBL.out.trans (hb6.mono HBL.out.size))
      clear hb6 HOV HKX HKY HFI HBL HSA
      go_wp2_with fail
      refine HV6.out.mono ?_
      rintro e w7 ⟨rfl, rfl⟩
      go_wp2_with fail
      refine HSB.out.mono ?_
      rintro e w8 ⟨rfl, hb8⟩
      have HB8 := Lib.hid (HB6.out.trans (hb8.mono HB6.out.size))
      clear hb8 HSB
      go_wp2_with fail
      go_ret
      exact ⟨rfl, HB8.out⟩
end Go.Proofs.YtomoemgoglghlaaGreatDoor

/-
  RatioMakes: the law's walk.
-/
set_option linter.unusedVariables false
set_option linter.unusedSimpArgs false
namespace Go.Proofs.YtomoemgoglghlaaGreatDoor
open Go.RowKit Rep


theorem skip_op {b : Bool} {p q : Prop} (hb : b = false) (h : q) : if b = true then p else q := by subst hb; simpa using h
theorem great_one {t : RawR} (h : greatB [t] = false) : t.2.1.2.1 ≤ 6 ∧ t.2.2.2.1 ≤ 6 := by
  simp [greatB] at h
  omega
theorem vq_zero' (W : World) : VQ 0 (false, (none, 0, 0), (none, 0, 0)) W := ⟨by decide, rfl, rfl, AtQ.zero W⟩
/-- Four boxes. -/
theorem boxes4 (w : World) (v1 v2 v3 v4 : Array Value) (t1 t2 t3 t4 : TypeId) : ∃ W0, W0 = (((w.alloc (.cells v1 t1)).alloc (.cells v2 t2)).alloc (.cells v3 t3)).alloc (.cells v4 t4) ∧ Below w.heap.size w W0 ∧
    W0.heap[w.heap.size]? = some (.cells v1 t1 (0, 0)) ∧ W0.heap[w.heap.size + 1]? = some (.cells v2 t2 (0, 0)) ∧ W0.heap[w.heap.size + 1 + 1]? = some (.cells v3 t3 (0, 0)) ∧ W0.heap[w.heap.size + 1 + 1 + 1]? = some (.cells v4 t4 (0, 0)) ∧ W0.heap.size = w.heap.size + 1 + 1 + 1 + 1 := by
  obtain ⟨W1, h1, h2, h3, h4, h5, h6⟩ := boxes3 w v1 v2 v3 t1 t2 t3
  subst h1
  refine ⟨_, rfl, h2.alloc h2.size _, ?_, ?_, ?_, ?_, by simp⟩
  · rw [Below.heap_alloc _ _ _ (by simp; omega)]; exact h3
  · rw [Below.heap_alloc _ _ _ (by simp)]; exact h4
  · rw [Below.heap_alloc _ _ _ (by simp)]; exact h5
  · simpa using heap_alloc_new (((w.alloc (.cells v1 t1)).alloc (.cells v2 t2)).alloc (.cells v3 t3)) (.cells v4 t4)
theorem cell1 {W0 W : World} {r : Nat} {v : Value} {t : TypeId} (h : W0.heap[r]? = some (.cells #[v] t (0, 0))) (hb : Below W0.heap.size W0 W) : W.cell? ⟨r, 0, none⟩ = some v := by
  have := (hb.block _ (Array.getElem?_eq_some_iff.1 h).1).trans h
  simp [World.cell?, this]
theorem rightB_form {q : Rat} {s : Bool} {xs ds : List Nat} (h1 : s = ngQ q) (h2 : xs = L (mgQ q)) (h3 : ds = L (denN q.den)) : rightB s xs ds = true := by
  subst h1 h2 h3
  have e : qOf (ngQ q) (L (mgQ q)) (L (denN q.den)) = q := by
    unfold qOf
    rw [V_L, V_L]
    have : (if denN q.den = 0 then 1 else denN q.den) = q.den := by
      have := den_pos q
      unfold denN
      by_cases h : q.den = 1
      · simp [h]
      · simp [h]; omega
    rw [this, mkQ_self]
  unfold rightB
  rw [e]
  exact decide_eq_true ⟨rfl, rfl, rfl⟩
theorem szQ_I {n : Int} (h1 : -9223372036854775808 ≤ n) (h2 : n ≤ 9223372036854775807) : szQ (qI n) ≤ 2 := by
  obtain ⟨a, b, c⟩ := qI_parts n
  unfold szQ
  rw [b, c, denN_one, L_zero]
  have : (L n.natAbs).length ≤ 2 := by rw [L_len]; omega
  simpa using this

set_option maxRecDepth 100000 in
set_option maxHeartbeats 16000000 in
theorem makesR_walk {lim : Int} {neg : Bool} {an : Option Addr} {cn : Nat} {xn : List Nat} {ad : Option Addr} {cd : Nat} {xd : List Nat} {n : Int} {s : Bool} {a1 a2 : Option Addr} {c1 c2 : Nat} {xs ds : List Nat} {w : World} (hl : lim ≤ 9223372036854775807) (hn1 : -9223372036854775808 ≤ n) (hn2 : n ≤ 9223372036854775807)
    (hxn : Handed w an cn xn) (hxd : Handed w ad cd xd) (hx : HandR w a1 c1 xs a2 c2 ds) (hT : Tab w) :
    Calls Tryz.prog 4 #[.int .i64 lim, .bool neg, .slice an xn.length cn, .slice ad xd.length cd, .int .i64 n, ratV s (.slice a1 xs.length c1) (.slice a2 ds.length c2)] w (Holds w) := by
  obtain ⟨W0, hW0, hB0, k1, k2, k3, k4, hsz⟩ := boxes4 w #[.bool neg] #[.slice an xn.length cn] #[.slice ad xd.length cd] #[.bool s, .slice a1 xs.length c1, .slice a2 ds.length c2] 4 23 23 27
  have HSP := Lib.hid (speaks02 (hT.kept hB0))
  have HK : Hid (∀ W, Below W0.heap.size W0 W → (W.cell? ⟨w.heap.size, 0, none⟩ = some (.bool neg) ∧ W.cell? ⟨w.heap.size + 1, 0, none⟩ = some (.slice an xn.length cn) ∧ W.cell? ⟨w.heap.size + 1 + 1, 0, none⟩ = some (.slice ad xd.length cd) ∧ W.cell? ⟨w.heap.size + 1 + 1 + 1, 0, none⟩ = some (.bool s) ∧ W.cell? ⟨w.heap.size + 1 + 1 + 1, 1, none⟩ = some (.slice a1 xs.length c1) ∧ W.cell? ⟨w.heap.size + 1 + 1 + 1, 2, none⟩ = some (.slice a2 ds.length c2))) := Lib.hid fun W h => by
    obtain ⟨f0, f1, f2, _⟩ := keep3 k4 W h
    exact ⟨cell1 k1 h, cell1 k2 h, cell1 k3 h, f0, f1, f2⟩
  have HW0 := Lib.hid hW0
  have HB := Lib.hid hB0
  have HXN := Lib.hid (hxn.kept hB0)
  have HXD := Lib.hid (hxd.kept hB0)
  have HX := Lib.hid (hx.kept hB0)
  have HT := Lib.hid (hT.kept hB0)
  have HL := Lib.hid hl
  have HSZ := Lib.hid hsz
  have hcn := hxn.le
  have hcn2 := hxn.cap
  have hcd := hxd.le
  have hcd2 := hxd.cap
  unfold maxLen at hcn2 hcd2
  obtain ⟨p0, p1, p2, p3, p4, p5⟩ := HK.out W0 (Below.refl _ _)
  clear hW0 hB0 k1 k2 k3 k4 hxn hxd hx hT hsz hl
  unfold ratV
  go_enter Tryz.func4, Tryz.ntmps4
  go_wp2_with fail
  rw [← HW0.out]
  refine HSP.out.mono ?_
  rintro e w1 ⟨rfl, hb1⟩
  obtain ⟨p0, p1, p2, p3, p4, p5⟩ := HK.out _ hb1
  have HB1 := Lib.hid hb1
  have HBL1 := Lib.hid (HB.out.trans (hb1.mono HB.out.size))
  clear hb1 HSP
  by_cases g1 : 8 < xn.length
  · have q1 : (8 : Int) < (xn.length : Int) := by omega
    have q2 : decide ((8 : Int) < (xn.length : Int)) = true := decide_eq_true q1
    have q3 : decide (8 < xn.length) = true := decide_eq_true g1
    have HE := Lib.hid HBL1.out
    clear g1
    go_wp2_with fail
    go_ret
    exact ⟨rfl, HE.out⟩
  have q1 : ¬ (8 : Int) < (xn.length : Int) := by omega
  have q2 : decide ((8 : Int) < (xn.length : Int)) = false := decide_eq_false q1
  have q3 : decide (8 < xn.length) = false := decide_eq_false g1
  have ln : xn.length ≤ 8 := by omega
  clear g1
  by_cases g1 : 8 < xd.length
  · have q4 : (8 : Int) < (xd.length : Int) := by omega
    have q5 : decide ((8 : Int) < (xd.length : Int)) = true := decide_eq_true q4
    have q6 : decide (8 < xd.length) = true := decide_eq_true g1
    have HE := Lib.hid HBL1.out
    clear g1
    go_wp2_with fail
    go_ret
    exact ⟨rfl, HE.out⟩
  have q4 : ¬ (8 : Int) < (xd.length : Int) := by omega
  have q5 : decide ((8 : Int) < (xd.length : Int)) = false := decide_eq_false q4
  have q6 : decide (8 < xd.length) = false := decide_eq_false g1
  have ld : xd.length ≤ 8 := by omega
  clear g1
  have hal := (Below.refl w1.heap.size w1).alloc (Nat.le_refl _) (.cells #[.bool s, .slice a1 xs.length c1, .slice a2 ds.length c2] 27)
  have HAL := Lib.hid hal
  have HG : Hid (Calls Tryz.prog 11 #[.slice (some ⟨w1.heap.size, 0, none⟩) 1 1] (w1.alloc (.cells #[.bool s, .slice a1 xs.length c1, .slice a2 ds.length c2] 27)) (GivesB (greatB [(s, (a1, xs.length, c1), (a2, ds.length, c2))]) (w1.alloc (.cells #[.bool s, .slice a1 xs.length c1, .slice a2 ds.length c2] 27)))) :=
    Lib.hid (Great_any w1.heap.size 1 [(s, (a1, xs.length, c1), (a2, ds.length, c2))] _ (Rats.one (heap_alloc_new w1 _)) (by simp) (by simp))
  clear hal
  go_wp2_with fail
  cases hgr : greatB [(s, (a1, xs.length, c1), (a2, ds.length, c2))]
  case true =>
    rw [hgr] at HG
    clear hgr
    refine HG.out.mono ?_
    rintro e w2 ⟨rfl, hb2⟩
    have HE := Lib.hid (HBL1.out.trans ((HAL.out.trans (hb2.mono HAL.out.size)).mono HBL1.out.size))
    clear hb2 HG HAL
    go_wp2_with fail
    go_ret
    exact ⟨rfl, HE.out⟩
  case false =>
  rw [hgr] at HG
  obtain ⟨l1, l2⟩ := great_one hgr
  dsimp only at l1 l2
  clear hgr
  refine HG.out.mono ?_
  rintro e w2 ⟨rfl, hb2⟩
  have hb02 := HB1.out.trans ((HAL.out.trans (hb2.mono HAL.out.size)).mono HB1.out.size)
  have HB2 := Lib.hid hb02
  obtain ⟨p0, p1, p2, p3, p4, p5⟩ := HK.out _ hb02
  obtain ⟨bb, hbb⟩ : ∃ bb, rightB s xs ds = bb := ⟨_, rfl⟩
  have HRP : Hid (∀ W, Below W0.heap.size W0 W → Calls Tryz.prog 38 #[.agg #[.bool s, .slice a1 xs.length c1, .slice a2 ds.length c2]] W (GotV W0 (.bool bb))) := Lib.hid fun W h => by
    rw [← hbb]
    exact (RightP_any (HX.out.kept h) (HT.out.kept h) (by omega) (by omega)).mono fun e W' hg => ⟨hg.1, Lib.hid (h.trans (hg.2.mono h.size))⟩
  have HRD : Hid (∀ W, Below W0.heap.size W0 W → Calls Tryz.prog 12 #[.agg #[.bool s, .slice a1 xs.length c1, .slice a2 ds.length c2]] W (GotV W0 (.bool bb))) := Lib.hid fun W h => by
    rw [← hbb]
    exact (RightR_any' (HX.out.kept h) l1 l2).mono fun e W' hg => ⟨hg.1, Lib.hid (h.trans (hg.2.mono h.size))⟩
  clear hb2 hb02 HG HAL HB1 hbb
  have G0 := Lib.hid (Below.drew1 HB2.out)
  go_wp2_with fail
  refine wp_region_held_drew (S := (fun w' => w'.cell? ⟨w.heap.size, 0, none⟩ = some (.bool neg) ∧ w'.cell? ⟨w.heap.size + 1, 0, none⟩ = some (.slice an xn.length cn) ∧ w'.cell? ⟨w.heap.size + 1 + 1, 0, none⟩ = some (.slice ad xd.length cd) ∧ w'.cell? ⟨w.heap.size + 1 + 1 + 1, 0, none⟩ = some (.bool s) ∧ w'.cell? ⟨w.heap.size + 1 + 1 + 1, 1, none⟩ = some (.slice a1 xs.length c1) ∧ w'.cell? ⟨w.heap.size + 1 + 1 + 1, 2, none⟩ = some (.slice a2 ds.length c2))) (by kernel_rfl) ?_ (fun hHeld => ?_)
  · exact HK.out _ G0.out
  refine wpAnyH_take (i := 0) (v := ?_) (by rfl) (by kernel_rfl) (by kernel_rfl) (by kernel_rfl) (by exact fun _ _ _ h => h) (Or.inl ⟨by rfl, ?_⟩) hHeld ?_
  rotate_left 1
  · intro w' hSw
    go_simp
    try with_reducible rfl
  try simp only [Act.put, List.setIfInBounds_toArray, List.set_cons_zero, List.set_cons_succ, List.getElem_toArray, List.getElem_cons_zero, List.getElem_cons_succ]
  refine wpAnyH_take (i := 2) (v := ?_) (by rfl) (by kernel_rfl) (by kernel_rfl) (by kernel_rfl) (by exact fun _ _ _ h => h) (Or.inl ⟨by rfl, ?_⟩) hHeld ?_
  rotate_left 1
  · intro w' hSw
    go_simp
    try with_reducible rfl
  try simp only [Act.put, List.setIfInBounds_toArray, List.set_cons_zero, List.set_cons_succ, List.getElem_toArray, List.getElem_cons_zero, List.getElem_cons_succ]
  refine wpAnyH_ready (rs := [1]) (by kernel_rfl) (by simp) ?_
  refine AllReadyH.cons (by rfl) (fun K hK => ?_) AllReadyH.nil
  go_simp
  with_reducible refine (HRP.out _ G0.out).mono ?_
  rintro e u1 ⟨rfl, G1⟩
  clear hHeld
  refine hK.out _ _ ?_ (fun hHeld => ?_)
  · exact HK.out _ G1.out
  clear hK K
  try simp only [Act.put, List.setIfInBounds_toArray, List.set_cons_zero, List.set_cons_succ, List.getElem_toArray, List.getElem_cons_zero, List.getElem_cons_succ]
  refine wpAnyH_ready (rs := [3]) (by kernel_rfl) (by simp) ?_
  refine AllReadyH.cons (by rfl) (fun K hK => ?_) AllReadyH.nil
  go_simp
  with_reducible refine (HRD.out _ G1.out).mono ?_
  rintro e u2 ⟨rfl, G2⟩
  clear hHeld
  refine hK.out _ _ ?_ (fun hHeld => ?_)
  · exact HK.out _ G2.out
  clear hK K
  try simp only [Act.put, List.setIfInBounds_toArray, List.set_cons_zero, List.set_cons_succ, List.getElem_toArray, List.getElem_cons_zero, List.getElem_cons_succ]
  refine wpAnyH_take (i := 4) (v := ?_) (by rfl) (by kernel_rfl) (by kernel_rfl) (by kernel_rfl) (by exact fun _ _ _ h => h) (Or.inl ⟨by rfl, ?_⟩) hHeld ?_
  rotate_left 1
  · intro w' hSw
    go_simp
    try with_reducible rfl
  try simp only [Act.put, List.setIfInBounds_toArray, List.set_cons_zero, List.set_cons_succ, List.getElem_toArray, List.getElem_cons_zero, List.getElem_cons_succ]
  refine wpAnyH_done (by kernel_rfl) ?_ _
  clear hHeld
  have HB4 := Lib.hid G2.out
  obtain ⟨p0, p1, p2, p3, p4, p5⟩ := HK.out _ G2.out
  have hxor : (bb != bb) = false := by cases bb <;> rfl
  clear G0 G1 G2 HRP HRD HB2
  have HOF := Lib.hid (OfP_any n u2 hn1 hn2)
  go_wp2_with fail
  refine HOF.out.mono ?_
  intro e w6 hg
  obtain ⟨s6, x1, n1, k1, x2, n2, k2, rfl, HB6, HV6⟩ := hg.got (Below.refl u2.heap.size u2)
  have hb06 := HB4.out.trans (HB6.out.mono HB4.out.size)
  obtain ⟨p0, p1, p2, p3, p4, p5⟩ := HK.out _ hb06
  have hal6 := (Below.refl w6.heap.size w6).alloc (Nat.le_refl _) (.cells #[.bool s6, .slice x1 n1 k1, .slice x2 n2 k2] 27)
  have hb07 := hb06.trans (hal6.mono hb06.size)
  have HKS : Hid (∀ W, Below (w6.alloc (.cells #[.bool s6, .slice x1 n1 k1, .slice x2 n2 k2] 27)).heap.size (w6.alloc (.cells #[.bool s6, .slice x1 n1 k1, .slice x2 n2 k2] 27)) W → (W.cell? ⟨w.heap.size, 0, none⟩ = some (.bool neg) ∧ W.cell? ⟨w.heap.size + 1, 0, none⟩ = some (.slice an xn.length cn) ∧ W.cell? ⟨w.heap.size + 1 + 1, 0, none⟩ = some (.slice ad xd.length cd) ∧ W.cell? ⟨w.heap.size + 1 + 1 + 1, 0, none⟩ = some (.bool s) ∧ W.cell? ⟨w.heap.size + 1 + 1 + 1, 1, none⟩ = some (.slice a1 xs.length c1) ∧ W.cell? ⟨w.heap.size + 1 + 1 + 1, 2, none⟩ = some (.slice a2 ds.length c2) ∧ W.cell? ⟨w6.heap.size, 0, none⟩ = some (.bool s6) ∧ W.cell? ⟨w6.heap.size, 1, none⟩ = some (.slice x1 n1 k1) ∧ W.cell? ⟨w6.heap.size, 2, none⟩ = some (.slice x2 n2 k2))) := Lib.hid fun W h => by
    obtain ⟨f0, f1, f2, f3, f4, f5⟩ := HK.out W (hb07.trans (h.mono hb07.size))
    obtain ⟨g0, g1, g2, _⟩ := keep3 (heap_alloc_new w6 (.cells #[.bool s6, .slice x1 n1 k1, .slice x2 n2 k2] 27)) W h
    exact ⟨f0, f1, f2, f3, f4, f5, g0, g1, g2⟩
  have HB7 := Lib.hid hb07
  have HV7 := Lib.hid (HV6.out.kept hal6)
  have HZI := Lib.hid (szQ_I hn1 hn2)
  have hne0 : w6.heap.size ≠ w.heap.size := by have := hb06.size; have := HSZ.out; omega
  have HBZ := Lib.hid (HB.out.trans (hb07.mono HB.out.size))
  have HRS : Hid (∀ W, Below (w6.alloc (.cells #[.bool s6, .slice x1 n1 k1, .slice x2 n2 k2] 27)).heap.size (w6.alloc (.cells #[.bool s6, .slice x1 n1 k1, .slice x2 n2 k2] 27)) W → Calls Tryz.prog 12 #[.agg #[.bool s6, .slice x1 n1 k1, .slice x2 n2 k2]] W (GotV (w6.alloc (.cells #[.bool s6, .slice x1 n1 k1, .slice x2 n2 k2] 27)) (.bool true))) := Lib.hid fun W h => by
    obtain ⟨e1, d1⟩ := (HV7.out.kept h).eq
    have hz := HZI.out
    unfold szQ at hz
    rw [e1]
    have hr := RightR_any (s := ngQ (qI n)) (d1.num.inn (by omega)) (d1.den.inn (by omega)) (by omega) (by omega)
    rw [rightB_form rfl rfl rfl] at hr
    exact hr.mono fun e W' hg => ⟨hg.1, Lib.hid (h.trans (hg.2.mono h.size))⟩
  have HFM : Hid (∀ W z0 z1 z2 z3 z4 z5 z6, Below (w6.alloc (.cells #[.bool s6, .slice x1 n1 k1, .slice x2 n2 k2] 27)).heap.size (w6.alloc (.cells #[.bool s6, .slice x1 n1 k1, .slice x2 n2 k2] 27)) W → VD (qI n) (z0, (z1, z2, z3), (z4, z5, z6)) W → Calls Tryz.prog 33 #[.agg #[.bool z0, .slice z1 z2 z3, .slice z4 z5 z6]] W (GotQ (w6.alloc (.cells #[.bool s6, .slice x1 n1 k1, .slice x2 n2 k2] 27)) (qI n))) := Lib.hid fun W z0 z1 z2 z3 z4 z5 z6 h hv =>
    got_form hv (by have := HZI.out; omega) h
  have HSM : Hid (∀ W z0 z1 z2 z3 z4 z5 z6, Below (w6.alloc (.cells #[.bool s6, .slice x1 n1 k1, .slice x2 n2 k2] 27)).heap.size (w6.alloc (.cells #[.bool s6, .slice x1 n1 k1, .slice x2 n2 k2] 27)) W → VQ (qI n) (z0, (z1, z2, z3), (z4, z5, z6)) W → Calls Tryz.prog 31 #[.agg #[.bool s6, .slice x1 n1 k1, .slice x2 n2 k2], .agg #[.bool z0, .slice z1 z2 z3, .slice z4 z5 z6]] W (GotV (w6.alloc (.cells #[.bool s6, .slice x1 n1 k1, .slice x2 n2 k2] 27)) (.bool true))) := Lib.hid fun W z0 z1 z2 z3 z4 z5 z6 h hv =>
    got_same (HV7.out.kept h) hv (by have := HZI.out; omega) h
  have HIN : Hid (-4611686018427387904 < n → ∀ W, Below (w6.alloc (.cells #[.bool s6, .slice x1 n1 k1, .slice x2 n2 k2] 27)).heap.size (w6.alloc (.cells #[.bool s6, .slice x1 n1 k1, .slice x2 n2 k2] 27)) W → Calls Tryz.prog 30 #[.int .i64 n] W (GotD (w6.alloc (.cells #[.bool s6, .slice x1 n1 k1, .slice x2 n2 k2] 27)) (qI n))) := Lib.hid fun hlo W h => (IntD_any n W hlo hn2).mono fun e W' hg => hg.got h
  have HNE : Hid (∀ W, Below (w6.alloc (.cells #[.bool s6, .slice x1 n1 k1, .slice x2 n2 k2] 27)).heap.size (w6.alloc (.cells #[.bool s6, .slice x1 n1 k1, .slice x2 n2 k2] 27)) W → NumE W an xn.length cn (V xn) ∧ NumE W ad xd.length cd (V xd) ∧ Tab W) := Lib.hid fun W h => by
    have hb := HB7.out.trans (h.mono HB7.out.size)
    exact ⟨.inn ((HXN.out.kept hb).inn (by omega)), .inn ((HXD.out.kept hb).inn (by omega)), HT.out.kept hb⟩
  have HNV : Hid (V xn = V xn ∧ (L (V xn)).length ≤ 8 ∧ (L (V xd)).length ≤ 8) := Lib.hid ⟨rfl, by have := (HNE.out _ (Below.refl _ _)).1.lenL; omega, by have := (HNE.out _ (Below.refl _ _)).2.1.lenL; omega⟩
  clear hg hal6 hb06 hb07 HB6 HV6 HOF HB4 HX HXN HXD HT HK
  go_wp2_with fail
  generalize hW7 : (w6.alloc (.cells #[.bool s6, .slice x1 n1 k1, .slice x2 n2 k2] 27)) = W7 at *
  have HW7 := Lib.hid hW7
  clear hW7
  have G0 := Lib.hid (below_drew W7)
  obtain ⟨p0, p1, p2, p3, p4, p5, p6, p7, p8⟩ := HKS.out _ G0.out
  have hcase : (decide (-4611686018427387904 < n) = true ∧ -4611686018427387904 < n) ∨ (decide (-4611686018427387904 < n) = false ∧ ¬ -4611686018427387904 < n) := by
    by_cases h : -4611686018427387904 < n
    · exact .inl ⟨decide_eq_true h, h⟩
    · exact .inr ⟨decide_eq_false h, h⟩
  rcases hcase with ⟨hq1, hq2⟩ | ⟨hq1, hq2⟩
  · have HIM := Lib.hid (HIN.out hq2)
    refine wp_region_held_drew (S := (fun w' => w'.cell? ⟨w.heap.size, 0, none⟩ = some (.bool neg) ∧ w'.cell? ⟨w.heap.size + 1, 0, none⟩ = some (.slice an xn.length cn) ∧ w'.cell? ⟨w.heap.size + 1 + 1, 0, none⟩ = some (.slice ad xd.length cd) ∧ w'.cell? ⟨w.heap.size + 1 + 1 + 1, 0, none⟩ = some (.bool s) ∧ w'.cell? ⟨w.heap.size + 1 + 1 + 1, 1, none⟩ = some (.slice a1 xs.length c1) ∧ w'.cell? ⟨w.heap.size + 1 + 1 + 1, 2, none⟩ = some (.slice a2 ds.length c2) ∧ w'.cell? ⟨w6.heap.size, 0, none⟩ = some (.bool s6) ∧ w'.cell? ⟨w6.heap.size, 1, none⟩ = some (.slice x1 n1 k1) ∧ w'.cell? ⟨w6.heap.size, 2, none⟩ = some (.slice x2 n2 k2))) (by kernel_rfl) ?_ (fun hHeld => ?_)
    · exact HKS.out _ G0.out
    refine wpAnyH_take (i := 0) (v := ?_) (by rfl) (by kernel_rfl) (by kernel_rfl) (by kernel_rfl) (by exact fun _ _ _ h => h) (Or.inl ⟨by rfl, ?_⟩) hHeld ?_
    rotate_left 1
    · intro w' hSw
      go_simp
      try with_reducible rfl
    try simp only [Act.put, List.setIfInBounds_toArray, List.set_cons_zero, List.set_cons_succ, List.getElem_toArray, List.getElem_cons_zero, List.getElem_cons_succ]
    refine wpAnyH_take (i := 1) (v := ?_) (by rfl) (by kernel_rfl) (by kernel_rfl) (by kernel_rfl) (by exact fun _ _ _ h => h) (Or.inl ⟨by rfl, ?_⟩) hHeld ?_
    rotate_left 1
    · intro w' hSw
      go_simp
      try with_reducible rfl
    try simp only [Act.put, List.setIfInBounds_toArray, List.set_cons_zero, List.set_cons_succ, List.getElem_toArray, List.getElem_cons_zero, List.getElem_cons_succ]
    refine wpAnyH_take (i := 2) (v := ?_) (by rfl) (by kernel_rfl) (by kernel_rfl) (by kernel_rfl) (by exact fun _ _ _ h => h) (Or.inl ⟨by rfl, ?_⟩) hHeld ?_
    rotate_left 1
    · intro w' hSw
      go_simp
      try with_reducible rfl
    try simp only [Act.put, List.setIfInBounds_toArray, List.set_cons_zero, List.set_cons_succ, List.getElem_toArray, List.getElem_cons_zero, List.getElem_cons_succ]
    refine wpAnyH_take (i := 3) (v := ?_) (by rfl) (by kernel_rfl) (by kernel_rfl) (by kernel_rfl) (by exact fun _ _ _ h => h) (Or.inl ⟨by rfl, ?_⟩) hHeld ?_
    rotate_left 1
    · intro w' hSw
      go_simp
      try with_reducible rfl
    try simp only [Act.put, List.setIfInBounds_toArray, List.set_cons_zero, List.set_cons_succ, List.getElem_toArray, List.getElem_cons_zero, List.getElem_cons_succ]
    refine wpAnyH_take (i := 4) (v := ?_) (by rfl) (by kernel_rfl) (by kernel_rfl) (by kernel_rfl) (by exact fun _ _ _ h => h) (Or.inl ⟨by rfl, ?_⟩) hHeld ?_
    rotate_left 1
    · intro w' hSw
      go_simp
      try with_reducible rfl
    try simp only [Act.put, List.setIfInBounds_toArray, List.set_cons_zero, List.set_cons_succ, List.getElem_toArray, List.getElem_cons_zero, List.getElem_cons_succ]
    refine wpAnyH_ready (rs := [5]) (by kernel_rfl) (by simp) ?_
    refine AllReadyH.cons (by rfl) (fun K hK => ?_) AllReadyH.nil
    go_simp
    with_reducible refine (HIM.out _ G0.out).mono ?_
    rintro e u3 ⟨i1s, i1a, i1l, i1c, i1b, i1k, i1e, rfl, G1, V1⟩
    clear hHeld
    refine hK.out _ _ ?_ (fun hHeld => ?_)
    · exact HKS.out _ G1.out
    clear hK K
    try simp only [Act.put, List.setIfInBounds_toArray, List.set_cons_zero, List.set_cons_succ, List.getElem_toArray, List.getElem_cons_zero, List.getElem_cons_succ]
    refine wpAnyH_ready (rs := [6]) (by kernel_rfl) (by simp) ?_
    refine AllReadyH.cons (by rfl) (fun K hK => ?_) AllReadyH.nil
    go_simp
    with_reducible refine (HFM.out _ _ _ _ _ _ _ _ G1.out V1.out).mono ?_
    rintro e u4 ⟨i2s, i2a, i2l, i2c, i2b, i2k, i2e, rfl, G2, V2⟩
    clear hHeld
    refine hK.out _ _ ?_ (fun hHeld => ?_)
    · exact HKS.out _ G2.out
    clear hK K
    try simp only [Act.put, List.setIfInBounds_toArray, List.set_cons_zero, List.set_cons_succ, List.getElem_toArray, List.getElem_cons_zero, List.getElem_cons_succ]
    refine wpAnyH_ready (rs := [7]) (by kernel_rfl) (by simp) ?_
    refine AllReadyH.cons (by rfl) (fun K hK => ?_) AllReadyH.nil
    go_simp
    with_reducible refine (HSM.out _ _ _ _ _ _ _ _ G2.out V2.out).mono ?_
    rintro e u5 ⟨rfl, G3⟩
    clear hHeld
    refine hK.out _ _ ?_ (fun hHeld => ?_)
    · exact HKS.out _ G3.out
    clear hK K
    try simp only [Act.put, List.setIfInBounds_toArray, List.set_cons_zero, List.set_cons_succ, List.getElem_toArray, List.getElem_cons_zero, List.getElem_cons_succ]
    refine wpAnyH_take (i := 8) (v := ?_) (by rfl) (by kernel_rfl) (by kernel_rfl) (by kernel_rfl) (by exact fun _ _ _ h => h) (Or.inl ⟨by rfl, ?_⟩) hHeld ?_
    rotate_left 1
    · intro w' hSw
      go_simp
      try with_reducible rfl
    try simp only [Act.put, List.setIfInBounds_toArray, List.set_cons_zero, List.set_cons_succ, List.getElem_toArray, List.getElem_cons_zero, List.getElem_cons_succ]
    refine wpAnyH_take (i := 9) (v := ?_) (by rfl) (by kernel_rfl) (by kernel_rfl) (by kernel_rfl) (by exact fun _ _ _ h => h) (Or.inl ⟨by rfl, ?_⟩) hHeld ?_
    rotate_left 1
    · intro w' hSw
      go_simp
      try with_reducible rfl
    try simp only [Act.put, List.setIfInBounds_toArray, List.set_cons_zero, List.set_cons_succ, List.getElem_toArray, List.getElem_cons_zero, List.getElem_cons_succ]
    refine wpAnyH_take (i := 10) (v := ?_) (by rfl) (by kernel_rfl) (by kernel_rfl) (by kernel_rfl) (by exact fun _ _ _ h => h) (Or.inl ⟨by rfl, ?_⟩) hHeld ?_
    rotate_left 1
    · intro w' hSw
      go_simp
      try with_reducible rfl
    try simp only [Act.put, List.setIfInBounds_toArray, List.set_cons_zero, List.set_cons_succ, List.getElem_toArray, List.getElem_cons_zero, List.getElem_cons_succ]
    refine wpAnyH_take (i := 11) (v := ?_) (by rfl) (by kernel_rfl) (by kernel_rfl) (by kernel_rfl) (by exact fun _ _ _ h => h) (Or.inl ⟨by rfl, ?_⟩) hHeld ?_
    rotate_left 1
    · intro w' hSw
      go_simp
      try with_reducible rfl
    try simp only [Act.put, List.setIfInBounds_toArray, List.set_cons_zero, List.set_cons_succ, List.getElem_toArray, List.getElem_cons_zero, List.getElem_cons_succ]
    refine wpAnyH_ready (rs := [12]) (by kernel_rfl) (by simp) ?_
    refine AllReadyH.cons (by rfl) (fun K hK => ?_) AllReadyH.nil
    go_simp
    with_reducible refine (HRS.out _ G3.out).mono ?_
    rintro e u6 ⟨rfl, G4⟩
    clear hHeld
    refine hK.out _ _ ?_ (fun hHeld => ?_)
    · exact HKS.out _ G4.out
    clear hK K
    try simp only [Act.put, List.setIfInBounds_toArray, List.set_cons_zero, List.set_cons_succ, List.getElem_toArray, List.getElem_cons_zero, List.getElem_cons_succ]
    refine wpAnyH_take (i := 13) (v := ?_) (by rfl) (by kernel_rfl) (by kernel_rfl) (by kernel_rfl) (by exact fun _ _ _ h => h) (Or.inl ⟨by rfl, ?_⟩) hHeld ?_
    rotate_left 1
    · intro w' hSw
      go_simp
      try with_reducible rfl
    try simp only [Act.put, List.setIfInBounds_toArray, List.set_cons_zero, List.set_cons_succ, List.getElem_toArray, List.getElem_cons_zero, List.getElem_cons_succ]
    refine wpAnyH_take (i := 14) (v := ?_) (by rfl) (by kernel_rfl) (by kernel_rfl) (by kernel_rfl) (by exact fun _ _ _ h => h) (Or.inl ⟨by rfl, ?_⟩) hHeld ?_
    rotate_left 1
    · intro w' hSw
      go_simp
      try with_reducible rfl
    try simp only [Act.put, List.setIfInBounds_toArray, List.set_cons_zero, List.set_cons_succ, List.getElem_toArray, List.getElem_cons_zero, List.getElem_cons_succ]
    refine wpAnyH_done (by kernel_rfl) ?_ _
    clear hHeld
    have HB8 := Lib.hid G4.out
    clear G0 G1 G2 G3 G4 V1 V2 HIM HIN HFM HSM HRS
    obtain ⟨p0, p1, p2, p3, p4, p5, p6, p7, p8⟩ := HKS.out _ HB8.out
    have HOD := Lib.hid (ofE (HNE.out _ HB8.out).2.1 (by omega))
    go_wp2_with fail
    refine HOD.out.mono ?_
    rintro e w9 ⟨a3, c3, rfl, hd3, hb3, _⟩
    have HD3 := Lib.hid hd3
    have hb9 := HB8.out.trans (hb3.mono HB8.out.size)
    have HB9 := Lib.hid hb9
    obtain ⟨p0, p1, p2, p3, p4, p5, p6, p7, p8⟩ := HKS.out _ hb9
    clear hd3 hb3 hb9 HOD HB8
    by_cases hv : V xd = 0
    · have hz : (((D (V xd)).length : Int) == 0) = true := by rw [hv]; rfl
      obtain ⟨m, hm1, hm2, hmx, hnew⟩ := new_for lim HL.out
      have HNEW := Lib.hid (hnew w9)
      have HV0 := Lib.hid hv
      clear hm1 hm2 hmx hnew hv
      go_wp2_with fail
      refine HNEW.out.mono ?_
      rintro e w' ⟨rfl, rfl⟩
      have hba : Below w9.heap.size w9 (w9.alloc (.cells #[.int .i64 (m : Int), .bool false] 116)) := (Below.refl _ _).alloc (Nat.le_refl _) _
      have hb10 := HB9.out.trans (hba.mono HB9.out.size)
      have HMK := Lib.hid (Make_0 (b := w9.heap.size) (m := m) (s := neg) (GivesBench.bench) (HNE.out _ hb10).1 (by have := (HNE.out _ hb10).2.1; rwa [HV0.out] at this) (HNE.out _ hb10).2.2 (by omega) (by omega))
      have HGR : Hid (∀ W, (w9.alloc (.cells #[.int .i64 (m : Int), .bool false] 116)).grownBy W (some w9.heap.size) → Below W7.heap.size W7 W) := Lib.hid fun W hg => HB9.out.trans ((hba.grown hg (by simp) (fun k hk => by cases hk; exact Nat.le_refl _)).mono HB9.out.size)
      obtain ⟨p0, p1, p2, p3, p4, p5, p6, p7, p8⟩ := HKS.out _ hb10
      clear hba hb10 HNEW
      go_wp2_with fail
      refine HMK.out.mono ?_
      rintro e w11 ⟨t0, z1, m1, j1, z2, m2, j2, rfl, HH⟩
      have HB11 := Lib.hid (HGR.out _ HH.out.2.2)
      have HSA := Lib.hid (got_same HH.out.1 (vq_zero' w11) (by rw [szQ_zero]; omega) (Below.refl w11.heap.size w11))
      have HOV := Lib.hid (fun W (h : Below w11.heap.size w11 W) => over_any W w9.heap.size m false (HH.out.2.1.kept h))
      clear HMK HGR HH
      go_wp2_with fail
      refine HSA.out.mono ?_
      rintro e w12 ⟨rfl, HB12⟩
      have HO := Lib.hid (HOV.out _ HB12.out)
      have HE := Lib.hid (HBZ.out.trans ((HB11.out.trans (HB12.out.mono HB11.out.size)).mono HBZ.out.size))
      clear HSA HOV HB12 HB11
      go_wp2_with fail
      refine HO.out.mono ?_
      rintro e w13 ⟨rfl, rfl⟩
      go_wp2_with fail
      go_ret
      exact ⟨rfl, HE.out⟩
    · have hz : (((D (V xd)).length : Int) == 0) = false := cast_beq_no (by rw [Ne, D_len_zero]; exact hv)
      have hvp : 0 < V xd := by omega
      have dl1 := D_of_L HNV.out.2.1
      have dl2 := D_of_L HNV.out.2.2
      have hsz : szQ (mkQ neg (V xn) (V xd)) ≤ 8 := szQ_mk _ _ hvp HNV.out.2.1 HNV.out.2.2
      have HO4 : Hid (∀ W, Below w9.heap.size w9 W → Calls Tryz.prog 40 #[.slice an xn.length cn] W (fun e W' => ∃ a c, e = .returned (.slice a (D (V xn)).length c) ∧ Hid (Below w9.heap.size w9 W') ∧ Hid (DAt W' a c (V xn)))) := Lib.hid fun W h => by
        refine (ofE (HNE.out W (HB9.out.trans (h.mono HB9.out.size))).1 (by omega)).mono ?_
        rintro e W' ⟨a, c, rfl, h1, h2, _⟩
        exact ⟨a, c, rfl, Lib.hid (h.trans (h2.mono h.size)), Lib.hid h1⟩
      have HLW : Hid (∀ W a c, Below w9.heap.size w9 W → DAt W a c (V xn) → Calls Tryz.prog 45 #[.agg #[.bool neg, .slice a (D (V xn)).length c, .slice a3 (D (V xd)).length c3]] W (GotD w9 (mkQ neg (V xn) (V xd)))) := Lib.hid fun W a c h h1 =>
        (Low_q (s := neg) h1 (HD3.out.kept h) hvp (by omega) (by omega)).mono fun e W' hg => hg.got h
      have HTD : Hid (∀ W z0 z1 z2 z3 z4 z5 z6, Below w9.heap.size w9 W → VD (mkQ neg (V xn) (V xd)) (z0, (z1, z2, z3), (z4, z5, z6)) W → Calls Tryz.prog 14 #[.int .i64 lim, .func (.func 44) #[] #[.pointer (some ⟨w.heap.size, 0, none⟩), .pointer (some ⟨w.heap.size + 1, 0, none⟩), .pointer (some ⟨w.heap.size + 1 + 1, 0, none⟩)], .agg #[.bool z0, .slice z1 z2 z3, .slice z4 z5 z6]] W (GotV w9 (.bool true))) := Lib.hid fun W z0 z1 z2 z3 z4 z5 z6 h hv => by
        obtain ⟨v1, v2⟩ := hv.eq
        obtain ⟨l3, l4⟩ := dl_q hsz
        rw [v1]
        refine (told02_M HL.out v2 (by omega) (by omega) (by omega) fun m W' b _ _ hB hbe _ => ?_).mono fun e W' hg => ⟨hg.1, Lib.hid (h.trans (hg.2.mono h.size))⟩
        have hb := HB9.out.trans ((h.trans (hB.mono h.size)).mono HB9.out.size)
        obtain ⟨o1, o2, o3⟩ := HNE.out W' hb
        obtain ⟨f0, f1, f2, _⟩ := HKS.out W' hb
        exact closMake hbe o3 o1 o2 (by omega) (by omega) hvp f0 f1 f2
      have HKR : Hid (∀ W, Below w9.heap.size w9 W → (W.cell? ⟨w.heap.size, 0, none⟩ = some (.bool neg) ∧ W.cell? ⟨w.heap.size + 1, 0, none⟩ = some (.slice an xn.length cn) ∧ W.cell? ⟨w.heap.size + 1 + 1, 0, none⟩ = some (.slice ad xd.length cd) ∧ W.cell? ⟨w.heap.size + 1 + 1 + 1, 0, none⟩ = some (.bool s) ∧ W.cell? ⟨w.heap.size + 1 + 1 + 1, 1, none⟩ = some (.slice a1 xs.length c1) ∧ W.cell? ⟨w.heap.size + 1 + 1 + 1, 2, none⟩ = some (.slice a2 ds.length c2))) := Lib.hid fun W h => by
        obtain ⟨f0, f1, f2, f3, f4, f5, _⟩ := HKS.out W (HB9.out.trans (h.mono HB9.out.size))
        exact ⟨f0, f1, f2, f3, f4, f5⟩
      have F0 := Lib.hid (below_drew w9)
      clear hv hvp dl1 dl2 hsz HD3 HNE HNV HKS
      go_wp2_with fail
      refine wp_region_held_drew (S := (fun w' => w'.cell? ⟨w.heap.size, 0, none⟩ = some (.bool neg) ∧ w'.cell? ⟨w.heap.size + 1, 0, none⟩ = some (.slice an xn.length cn) ∧ w'.cell? ⟨w.heap.size + 1 + 1, 0, none⟩ = some (.slice ad xd.length cd) ∧ w'.cell? ⟨w.heap.size + 1 + 1 + 1, 0, none⟩ = some (.bool s) ∧ w'.cell? ⟨w.heap.size + 1 + 1 + 1, 1, none⟩ = some (.slice a1 xs.length c1) ∧ w'.cell? ⟨w.heap.size + 1 + 1 + 1, 2, none⟩ = some (.slice a2 ds.length c2))) (by kernel_rfl) ?_ (fun hHeld => ?_)
      · exact HKR.out _ F0.out
      refine wpAnyH_take (i := 0) (v := ?_) (by rfl) (by kernel_rfl) (by kernel_rfl) (by kernel_rfl) (by exact fun _ _ _ h => h) (Or.inl ⟨by rfl, ?_⟩) hHeld ?_
      rotate_left 1
      · intro w' hSw
        go_simp
        try with_reducible rfl
      try simp only [Act.put, List.setIfInBounds_toArray, List.set_cons_zero, List.set_cons_succ, List.getElem_toArray, List.getElem_cons_zero, List.getElem_cons_succ]
      refine wpAnyH_take (i := 1) (v := ?_) (by rfl) (by kernel_rfl) (by kernel_rfl) (by kernel_rfl) (by exact fun _ _ _ h => h) (Or.inl ⟨by rfl, ?_⟩) hHeld ?_
      rotate_left 1
      · intro w' hSw
        go_simp
        try with_reducible rfl
      try simp only [Act.put, List.setIfInBounds_toArray, List.set_cons_zero, List.set_cons_succ, List.getElem_toArray, List.getElem_cons_zero, List.getElem_cons_succ]
      refine wpAnyH_take (i := 2) (v := ?_) (by rfl) (by kernel_rfl) (by kernel_rfl) (by kernel_rfl) (by exact fun _ _ _ h => h) (Or.inl ⟨by rfl, ?_⟩) hHeld ?_
      rotate_left 1
      · intro w' hSw
        go_simp
        try with_reducible rfl
      try simp only [Act.put, List.setIfInBounds_toArray, List.set_cons_zero, List.set_cons_succ, List.getElem_toArray, List.getElem_cons_zero, List.getElem_cons_succ]
      refine wpAnyH_take (i := 3) (v := ?_) (by rfl) (by kernel_rfl) (by kernel_rfl) (by kernel_rfl) (by exact fun _ _ _ h => h) (Or.inl ⟨by rfl, ?_⟩) hHeld ?_
      rotate_left 1
      · intro w' hSw
        go_simp
        try with_reducible rfl
      try simp only [Act.put, List.setIfInBounds_toArray, List.set_cons_zero, List.set_cons_succ, List.getElem_toArray, List.getElem_cons_zero, List.getElem_cons_succ]
      refine wpAnyH_take (i := 5) (v := ?_) (by rfl) (by kernel_rfl) (by kernel_rfl) (by kernel_rfl) (by exact fun _ _ _ h => h) (Or.inl ⟨by rfl, ?_⟩) hHeld ?_
      rotate_left 1
      · intro w' hSw
        go_simp
        try with_reducible rfl
      try simp only [Act.put, List.setIfInBounds_toArray, List.set_cons_zero, List.set_cons_succ, List.getElem_toArray, List.getElem_cons_zero, List.getElem_cons_succ]
      refine wpAnyH_ready (rs := [4]) (by kernel_rfl) (by simp) ?_
      refine AllReadyH.cons (by rfl) (fun K hK => ?_) AllReadyH.nil
      go_simp
      with_reducible refine (HO4.out _ F0.out).mono ?_
      rintro e w20 ⟨a7, c7, rfl, F1, D1⟩
      clear hHeld
      refine hK.out _ _ ?_ (fun hHeld => ?_)
      · exact HKR.out _ F1.out
      clear hK K
      try simp only [Act.put, List.setIfInBounds_toArray, List.set_cons_zero, List.set_cons_succ, List.getElem_toArray, List.getElem_cons_zero, List.getElem_cons_succ]
      refine wpAnyH_take (i := 6) (v := ?_) (by rfl) (by kernel_rfl) (by kernel_rfl) (by kernel_rfl) (by exact fun _ _ _ h => h) (Or.inl ⟨by rfl, ?_⟩) hHeld ?_
      rotate_left 1
      · intro w' hSw
        go_simp
        try with_reducible rfl
      try simp only [Act.put, List.setIfInBounds_toArray, List.set_cons_zero, List.set_cons_succ, List.getElem_toArray, List.getElem_cons_zero, List.getElem_cons_succ]
      refine wpAnyH_ready (rs := [7]) (by kernel_rfl) (by simp) ?_
      refine AllReadyH.cons (by rfl) (fun K hK => ?_) AllReadyH.nil
      go_simp
      with_reducible refine (HLW.out _ _ _ F1.out D1.out).mono ?_
      rintro e w21 ⟨y0, y1, y2, y3, y4, y5, y6, rfl, F2, E2⟩
      clear hHeld
      refine hK.out _ _ ?_ (fun hHeld => ?_)
      · exact HKR.out _ F2.out
      clear hK K
      try simp only [Act.put, List.setIfInBounds_toArray, List.set_cons_zero, List.set_cons_succ, List.getElem_toArray, List.getElem_cons_zero, List.getElem_cons_succ]
      refine wpAnyH_ready (rs := [8]) (by kernel_rfl) (by simp) ?_
      refine AllReadyH.cons (by rfl) (fun K hK => ?_) AllReadyH.nil
      go_simp
      with_reducible refine (HTD.out _ _ _ _ _ _ _ _ F2.out E2.out).mono ?_
      rintro e w22 ⟨rfl, F3⟩
      clear hHeld
      refine hK.out _ _ ?_ (fun hHeld => ?_)
      · exact HKR.out _ F3.out
      clear hK K
      try simp only [Act.put, List.setIfInBounds_toArray, List.set_cons_zero, List.set_cons_succ, List.getElem_toArray, List.getElem_cons_zero, List.getElem_cons_succ]
      refine wpAnyH_take (i := 9) (v := ?_) (by rfl) (by kernel_rfl) (by kernel_rfl) (by kernel_rfl) (by exact fun _ _ _ h => h) (Or.inl ⟨by rfl, ?_⟩) hHeld ?_
      rotate_left 1
      · intro w' hSw
        go_simp
        try with_reducible rfl
      try simp only [Act.put, List.setIfInBounds_toArray, List.set_cons_zero, List.set_cons_succ, List.getElem_toArray, List.getElem_cons_zero, List.getElem_cons_succ]
      refine wpAnyH_done (by kernel_rfl) ?_ _
      clear hHeld
      have HE := Lib.hid (HBZ.out.trans ((HB9.out.trans (F3.out.mono HB9.out.size)).mono HBZ.out.size))
      clear F0 F1 F2 F3
      go_wp2_with fail
      go_ret
      exact ⟨rfl, HE.out⟩
  · skip
    refine wp_region_held_drew (S := (fun w' => w'.cell? ⟨w.heap.size, 0, none⟩ = some (.bool neg) ∧ w'.cell? ⟨w.heap.size + 1, 0, none⟩ = some (.slice an xn.length cn) ∧ w'.cell? ⟨w.heap.size + 1 + 1, 0, none⟩ = some (.slice ad xd.length cd) ∧ w'.cell? ⟨w.heap.size + 1 + 1 + 1, 0, none⟩ = some (.bool s) ∧ w'.cell? ⟨w.heap.size + 1 + 1 + 1, 1, none⟩ = some (.slice a1 xs.length c1) ∧ w'.cell? ⟨w.heap.size + 1 + 1 + 1, 2, none⟩ = some (.slice a2 ds.length c2) ∧ w'.cell? ⟨w6.heap.size, 0, none⟩ = some (.bool s6) ∧ w'.cell? ⟨w6.heap.size, 1, none⟩ = some (.slice x1 n1 k1) ∧ w'.cell? ⟨w6.heap.size, 2, none⟩ = some (.slice x2 n2 k2))) (by kernel_rfl) ?_ (fun hHeld => ?_)
    · exact HKS.out _ G0.out
    refine wpAnyH_take (i := 0) (v := ?_) (by rfl) (by kernel_rfl) (by kernel_rfl) (by kernel_rfl) (by exact fun _ _ _ h => h) (Or.inl ⟨by rfl, ?_⟩) hHeld ?_
    rotate_left 1
    · intro w' hSw
      go_simp
      try with_reducible rfl
    try simp only [Act.put, List.setIfInBounds_toArray, List.set_cons_zero, List.set_cons_succ, List.getElem_toArray, List.getElem_cons_zero, List.getElem_cons_succ]
    refine wpAnyH_take (i := 1) (v := ?_) (by rfl) (by kernel_rfl) (by kernel_rfl) (by kernel_rfl) (by exact fun _ _ _ h => h) (Or.inl ⟨by rfl, ?_⟩) hHeld ?_
    rotate_left 1
    · intro w' hSw
      go_simp
      try with_reducible rfl
    try simp only [Act.put, List.setIfInBounds_toArray, List.set_cons_zero, List.set_cons_succ, List.getElem_toArray, List.getElem_cons_zero, List.getElem_cons_succ]
    refine wpAnyH_take (i := 2) (v := ?_) (by rfl) (by kernel_rfl) (by kernel_rfl) (by kernel_rfl) (by exact fun _ _ _ h => h) (Or.inl ⟨by rfl, ?_⟩) hHeld ?_
    rotate_left 1
    · intro w' hSw
      go_simp
      try with_reducible rfl
    try simp only [Act.put, List.setIfInBounds_toArray, List.set_cons_zero, List.set_cons_succ, List.getElem_toArray, List.getElem_cons_zero, List.getElem_cons_succ]
    first
      | (refine wpAnyH_take (i := 3) (v := undef) (by rfl) (by kernel_rfl) (by kernel_rfl) (by kernel_rfl) (by exact fun _ _ _ h => h) (Or.inr ⟨by rfl, rfl⟩) hHeld ?_; try simp only [Act.put, List.setIfInBounds_toArray, List.set_cons_zero, List.set_cons_succ, List.getElem_toArray, List.getElem_cons_zero, List.getElem_cons_succ])
      | (refine wpAnyH_ready (rs := [3]) (by kernel_rfl) (by simp) ?_; refine AllReadyH.cons (by rfl) (fun K hK => ?_) AllReadyH.nil; refine skip_op (by rfl) ?_; refine hK.out _ _ hHeld (fun hHeld => ?_); clear hK K; try simp only [Act.put, List.setIfInBounds_toArray, List.set_cons_zero, List.set_cons_succ, List.getElem_toArray, List.getElem_cons_zero, List.getElem_cons_succ])
    first
      | (refine wpAnyH_take (i := 4) (v := undef) (by rfl) (by kernel_rfl) (by kernel_rfl) (by kernel_rfl) (by exact fun _ _ _ h => h) (Or.inr ⟨by rfl, rfl⟩) hHeld ?_; try simp only [Act.put, List.setIfInBounds_toArray, List.set_cons_zero, List.set_cons_succ, List.getElem_toArray, List.getElem_cons_zero, List.getElem_cons_succ])
      | (refine wpAnyH_ready (rs := [4]) (by kernel_rfl) (by simp) ?_; refine AllReadyH.cons (by rfl) (fun K hK => ?_) AllReadyH.nil; refine skip_op (by rfl) ?_; refine hK.out _ _ hHeld (fun hHeld => ?_); clear hK K; try simp only [Act.put, List.setIfInBounds_toArray, List.set_cons_zero, List.set_cons_succ, List.getElem_toArray, List.getElem_cons_zero, List.getElem_cons_succ])
    first
      | (refine wpAnyH_take (i := 5) (v := undef) (by rfl) (by kernel_rfl) (by kernel_rfl) (by kernel_rfl) (by exact fun _ _ _ h => h) (Or.inr ⟨by rfl, rfl⟩) hHeld ?_; try simp only [Act.put, List.setIfInBounds_toArray, List.set_cons_zero, List.set_cons_succ, List.getElem_toArray, List.getElem_cons_zero, List.getElem_cons_succ])
      | (refine wpAnyH_ready (rs := [5]) (by kernel_rfl) (by simp) ?_; refine AllReadyH.cons (by rfl) (fun K hK => ?_) AllReadyH.nil; refine skip_op (by rfl) ?_; refine hK.out _ _ hHeld (fun hHeld => ?_); clear hK K; try simp only [Act.put, List.setIfInBounds_toArray, List.set_cons_zero, List.set_cons_succ, List.getElem_toArray, List.getElem_cons_zero, List.getElem_cons_succ])
    first
      | (refine wpAnyH_take (i := 6) (v := undef) (by rfl) (by kernel_rfl) (by kernel_rfl) (by kernel_rfl) (by exact fun _ _ _ h => h) (Or.inr ⟨by rfl, rfl⟩) hHeld ?_; try simp only [Act.put, List.setIfInBounds_toArray, List.set_cons_zero, List.set_cons_succ, List.getElem_toArray, List.getElem_cons_zero, List.getElem_cons_succ])
      | (refine wpAnyH_ready (rs := [6]) (by kernel_rfl) (by simp) ?_; refine AllReadyH.cons (by rfl) (fun K hK => ?_) AllReadyH.nil; refine skip_op (by rfl) ?_; refine hK.out _ _ hHeld (fun hHeld => ?_); clear hK K; try simp only [Act.put, List.setIfInBounds_toArray, List.set_cons_zero, List.set_cons_succ, List.getElem_toArray, List.getElem_cons_zero, List.getElem_cons_succ])
    first
      | (refine wpAnyH_take (i := 7) (v := undef) (by rfl) (by kernel_rfl) (by kernel_rfl) (by kernel_rfl) (by exact fun _ _ _ h => h) (Or.inr ⟨by rfl, rfl⟩) hHeld ?_; try simp only [Act.put, List.setIfInBounds_toArray, List.set_cons_zero, List.set_cons_succ, List.getElem_toArray, List.getElem_cons_zero, List.getElem_cons_succ])
      | (refine wpAnyH_ready (rs := [7]) (by kernel_rfl) (by simp) ?_; refine AllReadyH.cons (by rfl) (fun K hK => ?_) AllReadyH.nil; refine skip_op (by rfl) ?_; refine hK.out _ _ hHeld (fun hHeld => ?_); clear hK K; try simp only [Act.put, List.setIfInBounds_toArray, List.set_cons_zero, List.set_cons_succ, List.getElem_toArray, List.getElem_cons_zero, List.getElem_cons_succ])
    first
      | (refine wpAnyH_take (i := 8) (v := undef) (by rfl) (by kernel_rfl) (by kernel_rfl) (by kernel_rfl) (by exact fun _ _ _ h => h) (Or.inr ⟨by rfl, rfl⟩) hHeld ?_; try simp only [Act.put, List.setIfInBounds_toArray, List.set_cons_zero, List.set_cons_succ, List.getElem_toArray, List.getElem_cons_zero, List.getElem_cons_succ])
      | (refine wpAnyH_ready (rs := [8]) (by kernel_rfl) (by simp) ?_; refine AllReadyH.cons (by rfl) (fun K hK => ?_) AllReadyH.nil; refine skip_op (by rfl) ?_; refine hK.out _ _ hHeld (fun hHeld => ?_); clear hK K; try simp only [Act.put, List.setIfInBounds_toArray, List.set_cons_zero, List.set_cons_succ, List.getElem_toArray, List.getElem_cons_zero, List.getElem_cons_succ])
    refine wpAnyH_take (i := 9) (v := ?_) (by rfl) (by kernel_rfl) (by kernel_rfl) (by kernel_rfl) (by exact fun _ _ _ h => h) (Or.inl ⟨by rfl, ?_⟩) hHeld ?_
    rotate_left 1
    · intro w' hSw
      go_simp
      try with_reducible rfl
    try simp only [Act.put, List.setIfInBounds_toArray, List.set_cons_zero, List.set_cons_succ, List.getElem_toArray, List.getElem_cons_zero, List.getElem_cons_succ]
    refine wpAnyH_take (i := 10) (v := ?_) (by rfl) (by kernel_rfl) (by kernel_rfl) (by kernel_rfl) (by exact fun _ _ _ h => h) (Or.inl ⟨by rfl, ?_⟩) hHeld ?_
    rotate_left 1
    · intro w' hSw
      go_simp
      try with_reducible rfl
    try simp only [Act.put, List.setIfInBounds_toArray, List.set_cons_zero, List.set_cons_succ, List.getElem_toArray, List.getElem_cons_zero, List.getElem_cons_succ]
    refine wpAnyH_take (i := 11) (v := ?_) (by rfl) (by kernel_rfl) (by kernel_rfl) (by kernel_rfl) (by exact fun _ _ _ h => h) (Or.inl ⟨by rfl, ?_⟩) hHeld ?_
    rotate_left 1
    · intro w' hSw
      go_simp
      try with_reducible rfl
    try simp only [Act.put, List.setIfInBounds_toArray, List.set_cons_zero, List.set_cons_succ, List.getElem_toArray, List.getElem_cons_zero, List.getElem_cons_succ]
    refine wpAnyH_ready (rs := [12]) (by kernel_rfl) (by simp) ?_
    refine AllReadyH.cons (by rfl) (fun K hK => ?_) AllReadyH.nil
    go_simp
    with_reducible refine (HRS.out _ G0.out).mono ?_
    rintro e u6 ⟨rfl, G4⟩
    clear hHeld
    refine hK.out _ _ ?_ (fun hHeld => ?_)
    · exact HKS.out _ G4.out
    clear hK K
    try simp only [Act.put, List.setIfInBounds_toArray, List.set_cons_zero, List.set_cons_succ, List.getElem_toArray, List.getElem_cons_zero, List.getElem_cons_succ]
    refine wpAnyH_take (i := 13) (v := ?_) (by rfl) (by kernel_rfl) (by kernel_rfl) (by kernel_rfl) (by exact fun _ _ _ h => h) (Or.inl ⟨by rfl, ?_⟩) hHeld ?_
    rotate_left 1
    · intro w' hSw
      go_simp
      try with_reducible rfl
    try simp only [Act.put, List.setIfInBounds_toArray, List.set_cons_zero, List.set_cons_succ, List.getElem_toArray, List.getElem_cons_zero, List.getElem_cons_succ]
    refine wpAnyH_take (i := 14) (v := ?_) (by rfl) (by kernel_rfl) (by kernel_rfl) (by kernel_rfl) (by exact fun _ _ _ h => h) (Or.inl ⟨by rfl, ?_⟩) hHeld ?_
    rotate_left 1
    · intro w' hSw
      go_simp
      try with_reducible rfl
    try simp only [Act.put, List.setIfInBounds_toArray, List.set_cons_zero, List.set_cons_succ, List.getElem_toArray, List.getElem_cons_zero, List.getElem_cons_succ]
    refine wpAnyH_done (by kernel_rfl) ?_ _
    clear hHeld
    have HB8 := Lib.hid G4.out
    clear G0 G4 HIN HFM HSM HRS
    obtain ⟨p0, p1, p2, p3, p4, p5, p6, p7, p8⟩ := HKS.out _ HB8.out
    have HOD := Lib.hid (ofE (HNE.out _ HB8.out).2.1 (by omega))
    go_wp2_with fail
    refine HOD.out.mono ?_
    rintro e w9 ⟨a3, c3, rfl, hd3, hb3, _⟩
    have HD3 := Lib.hid hd3
    have hb9 := HB8.out.trans (hb3.mono HB8.out.size)
    have HB9 := Lib.hid hb9
    obtain ⟨p0, p1, p2, p3, p4, p5, p6, p7, p8⟩ := HKS.out _ hb9
    clear hd3 hb3 hb9 HOD HB8
    by_cases hv : V xd = 0
    · have hz : (((D (V xd)).length : Int) == 0) = true := by rw [hv]; rfl
      obtain ⟨m, hm1, hm2, hmx, hnew⟩ := new_for lim HL.out
      have HNEW := Lib.hid (hnew w9)
      have HV0 := Lib.hid hv
      clear hm1 hm2 hmx hnew hv
      go_wp2_with fail
      refine HNEW.out.mono ?_
      rintro e w' ⟨rfl, rfl⟩
      have hba : Below w9.heap.size w9 (w9.alloc (.cells #[.int .i64 (m : Int), .bool false] 116)) := (Below.refl _ _).alloc (Nat.le_refl _) _
      have hb10 := HB9.out.trans (hba.mono HB9.out.size)
      have HMK := Lib.hid (Make_0 (b := w9.heap.size) (m := m) (s := neg) (GivesBench.bench) (HNE.out _ hb10).1 (by have := (HNE.out _ hb10).2.1; rwa [HV0.out] at this) (HNE.out _ hb10).2.2 (by omega) (by omega))
      have HGR : Hid (∀ W, (w9.alloc (.cells #[.int .i64 (m : Int), .bool false] 116)).grownBy W (some w9.heap.size) → Below W7.heap.size W7 W) := Lib.hid fun W hg => HB9.out.trans ((hba.grown hg (by simp) (fun k hk => by cases hk; exact Nat.le_refl _)).mono HB9.out.size)
      obtain ⟨p0, p1, p2, p3, p4, p5, p6, p7, p8⟩ := HKS.out _ hb10
      clear hba hb10 HNEW
      go_wp2_with fail
      refine HMK.out.mono ?_
      rintro e w11 ⟨t0, z1, m1, j1, z2, m2, j2, rfl, HH⟩
      have HB11 := Lib.hid (HGR.out _ HH.out.2.2)
      have HSA := Lib.hid (got_same HH.out.1 (vq_zero' w11) (by rw [szQ_zero]; omega) (Below.refl w11.heap.size w11))
      have HOV := Lib.hid (fun W (h : Below w11.heap.size w11 W) => over_any W w9.heap.size m false (HH.out.2.1.kept h))
      clear HMK HGR HH
      go_wp2_with fail
      refine HSA.out.mono ?_
      rintro e w12 ⟨rfl, HB12⟩
      have HO := Lib.hid (HOV.out _ HB12.out)
      have HE := Lib.hid (HBZ.out.trans ((HB11.out.trans (HB12.out.mono HB11.out.size)).mono HBZ.out.size))
      clear HSA HOV HB12 HB11
      go_wp2_with fail
      refine HO.out.mono ?_
      rintro e w13 ⟨rfl, rfl⟩
      go_wp2_with fail
      go_ret
      exact ⟨rfl, HE.out⟩
    · have hz : (((D (V xd)).length : Int) == 0) = false := cast_beq_no (by rw [Ne, D_len_zero]; exact hv)
      have hvp : 0 < V xd := by omega
      have dl1 := D_of_L HNV.out.2.1
      have dl2 := D_of_L HNV.out.2.2
      have hsz : szQ (mkQ neg (V xn) (V xd)) ≤ 8 := szQ_mk _ _ hvp HNV.out.2.1 HNV.out.2.2
      have HO4 : Hid (∀ W, Below w9.heap.size w9 W → Calls Tryz.prog 40 #[.slice an xn.length cn] W (fun e W' => ∃ a c, e = .returned (.slice a (D (V xn)).length c) ∧ Hid (Below w9.heap.size w9 W') ∧ Hid (DAt W' a c (V xn)))) := Lib.hid fun W h => by
        refine (ofE (HNE.out W (HB9.out.trans (h.mono HB9.out.size))).1 (by omega)).mono ?_
        rintro e W' ⟨a, c, rfl, h1, h2, _⟩
        exact ⟨a, c, rfl, Lib.hid (h.trans (h2.mono h.size)), Lib.hid h1⟩
      have HLW : Hid (∀ W a c, Below w9.heap.size w9 W → DAt W a c (V xn) → Calls Tryz.prog 45 #[.agg #[.bool neg, .slice a (D (V xn)).length c, .slice a3 (D (V xd)).length c3]] W (GotD w9 (mkQ neg (V xn) (V xd)))) := Lib.hid fun W a c h h1 =>
        (Low_q (s := neg) h1 (HD3.out.kept h) hvp (by omega) (by omega)).mono fun e W' hg => hg.got h
      have HTD : Hid (∀ W z0 z1 z2 z3 z4 z5 z6, Below w9.heap.size w9 W → VD (mkQ neg (V xn) (V xd)) (z0, (z1, z2, z3), (z4, z5, z6)) W → Calls Tryz.prog 14 #[.int .i64 lim, .func (.func 44) #[] #[.pointer (some ⟨w.heap.size, 0, none⟩), .pointer (some ⟨w.heap.size + 1, 0, none⟩), .pointer (some ⟨w.heap.size + 1 + 1, 0, none⟩)], .agg #[.bool z0, .slice z1 z2 z3, .slice z4 z5 z6]] W (GotV w9 (.bool true))) := Lib.hid fun W z0 z1 z2 z3 z4 z5 z6 h hv => by
        obtain ⟨v1, v2⟩ := hv.eq
        obtain ⟨l3, l4⟩ := dl_q hsz
        rw [v1]
        refine (told02_M HL.out v2 (by omega) (by omega) (by omega) fun m W' b _ _ hB hbe _ => ?_).mono fun e W' hg => ⟨hg.1, Lib.hid (h.trans (hg.2.mono h.size))⟩
        have hb := HB9.out.trans ((h.trans (hB.mono h.size)).mono HB9.out.size)
        obtain ⟨o1, o2, o3⟩ := HNE.out W' hb
        obtain ⟨f0, f1, f2, _⟩ := HKS.out W' hb
        exact closMake hbe o3 o1 o2 (by omega) (by omega) hvp f0 f1 f2
      have HKR : Hid (∀ W, Below w9.heap.size w9 W → (W.cell? ⟨w.heap.size, 0, none⟩ = some (.bool neg) ∧ W.cell? ⟨w.heap.size + 1, 0, none⟩ = some (.slice an xn.length cn) ∧ W.cell? ⟨w.heap.size + 1 + 1, 0, none⟩ = some (.slice ad xd.length cd) ∧ W.cell? ⟨w.heap.size + 1 + 1 + 1, 0, none⟩ = some (.bool s) ∧ W.cell? ⟨w.heap.size + 1 + 1 + 1, 1, none⟩ = some (.slice a1 xs.length c1) ∧ W.cell? ⟨w.heap.size + 1 + 1 + 1, 2, none⟩ = some (.slice a2 ds.length c2))) := Lib.hid fun W h => by
        obtain ⟨f0, f1, f2, f3, f4, f5, _⟩ := HKS.out W (HB9.out.trans (h.mono HB9.out.size))
        exact ⟨f0, f1, f2, f3, f4, f5⟩
      have F0 := Lib.hid (below_drew w9)
      clear hv hvp dl1 dl2 hsz HD3 HNE HNV HKS
      go_wp2_with fail
      refine wp_region_held_drew (S := (fun w' => w'.cell? ⟨w.heap.size, 0, none⟩ = some (.bool neg) ∧ w'.cell? ⟨w.heap.size + 1, 0, none⟩ = some (.slice an xn.length cn) ∧ w'.cell? ⟨w.heap.size + 1 + 1, 0, none⟩ = some (.slice ad xd.length cd) ∧ w'.cell? ⟨w.heap.size + 1 + 1 + 1, 0, none⟩ = some (.bool s) ∧ w'.cell? ⟨w.heap.size + 1 + 1 + 1, 1, none⟩ = some (.slice a1 xs.length c1) ∧ w'.cell? ⟨w.heap.size + 1 + 1 + 1, 2, none⟩ = some (.slice a2 ds.length c2))) (by kernel_rfl) ?_ (fun hHeld => ?_)
      · exact HKR.out _ F0.out
      refine wpAnyH_take (i := 0) (v := ?_) (by rfl) (by kernel_rfl) (by kernel_rfl) (by kernel_rfl) (by exact fun _ _ _ h => h) (Or.inl ⟨by rfl, ?_⟩) hHeld ?_
      rotate_left 1
      · intro w' hSw
        go_simp
        try with_reducible rfl
      try simp only [Act.put, List.setIfInBounds_toArray, List.set_cons_zero, List.set_cons_succ, List.getElem_toArray, List.getElem_cons_zero, List.getElem_cons_succ]
      refine wpAnyH_take (i := 1) (v := ?_) (by rfl) (by kernel_rfl) (by kernel_rfl) (by kernel_rfl) (by exact fun _ _ _ h => h) (Or.inl ⟨by rfl, ?_⟩) hHeld ?_
      rotate_left 1
      · intro w' hSw
        go_simp
        try with_reducible rfl
      try simp only [Act.put, List.setIfInBounds_toArray, List.set_cons_zero, List.set_cons_succ, List.getElem_toArray, List.getElem_cons_zero, List.getElem_cons_succ]
      refine wpAnyH_take (i := 2) (v := ?_) (by rfl) (by kernel_rfl) (by kernel_rfl) (by kernel_rfl) (by exact fun _ _ _ h => h) (Or.inl ⟨by rfl, ?_⟩) hHeld ?_
      rotate_left 1
      · intro w' hSw
        go_simp
        try with_reducible rfl
      try simp only [Act.put, List.setIfInBounds_toArray, List.set_cons_zero, List.set_cons_succ, List.getElem_toArray, List.getElem_cons_zero, List.getElem_cons_succ]
      refine wpAnyH_take (i := 3) (v := ?_) (by rfl) (by kernel_rfl) (by kernel_rfl) (by kernel_rfl) (by exact fun _ _ _ h => h) (Or.inl ⟨by rfl, ?_⟩) hHeld ?_
      rotate_left 1
      · intro w' hSw
        go_simp
        try with_reducible rfl
      try simp only [Act.put, List.setIfInBounds_toArray, List.set_cons_zero, List.set_cons_succ, List.getElem_toArray, List.getElem_cons_zero, List.getElem_cons_succ]
      refine wpAnyH_take (i := 5) (v := ?_) (by rfl) (by kernel_rfl) (by kernel_rfl) (by kernel_rfl) (by exact fun _ _ _ h => h) (Or.inl ⟨by rfl, ?_⟩) hHeld ?_
      rotate_left 1
      · intro w' hSw
        go_simp
        try with_reducible rfl
      try simp only [Act.put, List.setIfInBounds_toArray, List.set_cons_zero, List.set_cons_succ, List.getElem_toArray, List.getElem_cons_zero, List.getElem_cons_succ]
      refine wpAnyH_ready (rs := [4]) (by kernel_rfl) (by simp) ?_
      refine AllReadyH.cons (by rfl) (fun K hK => ?_) AllReadyH.nil
      go_simp
      with_reducible refine (HO4.out _ F0.out).mono ?_
      rintro e w20 ⟨a7, c7, rfl, F1, D1⟩
      clear hHeld
      refine hK.out _ _ ?_ (fun hHeld => ?_)
      · exact HKR.out _ F1.out
      clear hK K
      try simp only [Act.put, List.setIfInBounds_toArray, List.set_cons_zero, List.set_cons_succ, List.getElem_toArray, List.getElem_cons_zero, List.getElem_cons_succ]
      refine wpAnyH_take (i := 6) (v := ?_) (by rfl) (by kernel_rfl) (by kernel_rfl) (by kernel_rfl) (by exact fun _ _ _ h => h) (Or.inl ⟨by rfl, ?_⟩) hHeld ?_
      rotate_left 1
      · intro w' hSw
        go_simp
        try with_reducible rfl
      try simp only [Act.put, List.setIfInBounds_toArray, List.set_cons_zero, List.set_cons_succ, List.getElem_toArray, List.getElem_cons_zero, List.getElem_cons_succ]
      refine wpAnyH_ready (rs := [7]) (by kernel_rfl) (by simp) ?_
      refine AllReadyH.cons (by rfl) (fun K hK => ?_) AllReadyH.nil
      go_simp
      with_reducible refine (HLW.out _ _ _ F1.out D1.out).mono ?_
      rintro e w21 ⟨y0, y1, y2, y3, y4, y5, y6, rfl, F2, E2⟩
      clear hHeld
      refine hK.out _ _ ?_ (fun hHeld => ?_)
      · exact HKR.out _ F2.out
      clear hK K
      try simp only [Act.put, List.setIfInBounds_toArray, List.set_cons_zero, List.set_cons_succ, List.getElem_toArray, List.getElem_cons_zero, List.getElem_cons_succ]
      refine wpAnyH_ready (rs := [8]) (by kernel_rfl) (by simp) ?_
      refine AllReadyH.cons (by rfl) (fun K hK => ?_) AllReadyH.nil
      go_simp
      with_reducible refine (HTD.out _ _ _ _ _ _ _ _ F2.out E2.out).mono ?_
      rintro e w22 ⟨rfl, F3⟩
      clear hHeld
      refine hK.out _ _ ?_ (fun hHeld => ?_)
      · exact HKR.out _ F3.out
      clear hK K
      try simp only [Act.put, List.setIfInBounds_toArray, List.set_cons_zero, List.set_cons_succ, List.getElem_toArray, List.getElem_cons_zero, List.getElem_cons_succ]
      refine wpAnyH_take (i := 9) (v := ?_) (by rfl) (by kernel_rfl) (by kernel_rfl) (by kernel_rfl) (by exact fun _ _ _ h => h) (Or.inl ⟨by rfl, ?_⟩) hHeld ?_
      rotate_left 1
      · intro w' hSw
        go_simp
        try with_reducible rfl
      try simp only [Act.put, List.setIfInBounds_toArray, List.set_cons_zero, List.set_cons_succ, List.getElem_toArray, List.getElem_cons_zero, List.getElem_cons_succ]
      refine wpAnyH_done (by kernel_rfl) ?_ _
      clear hHeld
      have HE := Lib.hid (HBZ.out.trans ((HB9.out.trans (F3.out.mono HB9.out.size)).mono HBZ.out.size))
      clear F0 F1 F2 F3
      go_wp2_with fail
      go_ret
      exact ⟨rfl, HE.out⟩
end Go.Proofs.YtomoemgoglghlaaGreatDoor
