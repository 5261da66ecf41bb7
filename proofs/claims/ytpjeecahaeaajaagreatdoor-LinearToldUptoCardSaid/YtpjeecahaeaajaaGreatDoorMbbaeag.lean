/- By program out of: DivLong, Divide. -/
import Derived.Test.YtpjeecahaeaajaaGreatDoorMdnlffl
import Derived.Test.YtpjeecahaeaajaaGreatDoorMjjocoa
import Derived.Test.YtpjeecahaeaajaaGreatDoorMnjjipg
import Derived.Test.YtpjeecahaeaajaaGreatDoorMdegbog
set_option linter.unusedVariables false
set_option linter.unusedSimpArgs false
namespace Go.Proofs.YtpjeecahaeaajaaGreatDoor
open Go.RowKit Rep
attribute [local go_sem] Oper.semAt_some
def GivesDiv (q r : Nat) (w : World) (e : Ending) (w' : World) : Prop :=
  ∃ a1 c1 a2 c2, e = .returned (.tuple #[.slice a1 (L q).length c1, .slice a2 (L r).length c2]) ∧ Own w.heap.size w' a1 c1 (L q) ∧ Own w.heap.size w' a2 c2 (L r) ∧ Below w.heap.size w w'
def Only (A : Act) (R : World → Prop) : Exit → Act → World → Prop
  | .normal, a, w => a = A ∧ R w
  | _, _, _ => False
theorem Only.out {A : Act} {R : World → Prop} {e : Exit} {a : Act} {w : World} (h : Only A R e a w) : e = .normal ∧ a = A ∧ R w := by
  cases e <;> first | exact ⟨rfl, h.1, h.2⟩ | exact h.elim
def puts (a : Act) : List (Nat × Value) → Act
  | [] => a
  | p :: l => puts (a.put (some p.1) p.2) l
theorem wp_region_puts {P : Program} {id : Nat} {ops : Array Oper} {Q : Exit → Act → World → Prop} {a : Act} {w : World} (l : List (Nat × Value)) (R : World → Prop)
    (h : (Code.region id ops true).wp P (Only (puts a l) R) a w) (hq : ∀ w', R w' → Q .normal (puts a l) w') : (Code.region id ops true).wp P Q a w :=
  Code.wp_mono (fun e a' w' ho => by
    obtain ⟨rfl, rfl, hr⟩ := ho.out
    exact hq w' hr) h
def BoxY (w : World) (s M : Nat) (w' : World) : Prop :=
  ∃ Q : List Nat, w'.heap[w.heap.size]? = some (.cells #[.slice (some ⟨w.heap.size + 1, 0, none⟩) (L M).length ((L M).length + 1)] 23 (0, 0)) ∧ Row 68 w' (w.heap.size + 1) ((L M).length + 1) (Q.map u32v) ∧ Q.length = (L M).length + 1 ∧ Lim Q ∧
    V Q = M * 2 ^ s ∧ Below w.heap.size w w'
theorem boxY_of {w W1 w' : World} {s M : Nat} {u : Value} {Q : List Nat} (h1 : Below w.heap.size w W1) (hsz : W1.heap.size = w.heap.size + 1) (hbx : W1.heap[w.heap.size]? = some (.cells #[u] 23 (0, 0))) (hb : Below W1.heap.size W1 w')
    (hrow : Row 68 w' W1.heap.size ((L M).length + 1) (Q.map u32v)) (hql : Q.length = (L M).length + 1) (hlim : Lim Q) (hv : V Q = V (L M) * 2 ^ s) :
    BoxY w s M (w'.setCell ⟨w.heap.size, 0, none⟩ (.slice (some ⟨w.heap.size + 1, 0, none⟩) (L M).length ((L M).length + 1))) := by
  have hh : w'.heap[w.heap.size]? = some (.cells #[u] 23 (0, 0)) := (hb.block _ (by omega)).trans hbx
  refine ⟨Q, ?_, ?_, hql, hlim, by rw [hv, V_L], (h1.trans (hb.mono (by omega))).setCell (p := ⟨w.heap.size, 0, none⟩) (Nat.le_refl _) _⟩
  · exact set_one _ hh
  · rw [← hsz]
    exact hrow.other _ _ (by simp; omega)
structure DivAt (B K gR ly lr tl : Nat) (YL R T : List Nat) (W : World) : Prop where
  boxY : W.heap[B]? = some (.cells #[.slice (some ⟨B + 1, 0, none⟩) ly (ly + 1)] 23 (0, 0))
  rowY : Row 68 W (B + 1) (ly + 1) (YL.map u32v)
  boxR : W.heap[K]? = some (.cells #[.slice (some ⟨gR, 0, none⟩) lr lr] 23 (0, 0))
  rowR : Row 68 W gR lr (R.map u32v)
  boxT : W.heap[K + 2]? = some (.cells #[.slice (some ⟨K + 1, 0, none⟩) tl tl] 23 (0, 0))
  boxC : W.heap[K + 3]? = some (.cells #[.slice (some ⟨K + 1, 0, none⟩) tl tl] 23 (0, 0))
  rowT : Row 68 W (K + 1) tl (T.map u32v)
def DivIn (w : World) (K gR ly lr tl X Y : Nat) (YL : List Nat) (pre : List (Nat × Nat)) (W : World) : Prop :=
  ∃ (R T : List Nat) (k : Nat), k + pre.length = tl ∧ R.length = lr ∧ Lim R ∧ T.length = tl ∧ Lim T ∧ (∀ j, j < k → T.getD j 0 = 0) ∧ V R + Y * (4294967296 ^ k * V (T.drop k)) = X ∧ V (R.drop k) < Y ∧
    DivAt w.heap.size K gR ly lr tl YL R T W ∧ Below w.heap.size w W
theorem DivAt.mono {B K gR ly lr tl : Nat} {YL R T : List Nat} {W W' : World} (h : DivAt B K gR ly lr tl YL R T W) (kc : ∀ {b : Nat} {c : Array Value} {e : TypeId} {z : Nat × Nat}, W.heap[b]? = some (.cells c e z) → W'.heap[b]? = some (.cells c e z)) : DivAt B K gR ly lr tl YL R T W' := by
  have kr : ∀ {E g cap vs}, Row E W g cap vs → Row E W' g cap vs := fun hr => by obtain ⟨cur, hc, hr⟩ := hr; exact ⟨cur, kc hc, hr⟩
  exact ⟨kc h.boxY, kr h.rowY, kc h.boxR, kr h.rowR, kc h.boxT, kc h.boxC, kr h.rowT⟩
theorem div_own (w : World) (K gR ly lr tl X Y B0 : Nat) (YL : List Nat) (hB : w.heap.size ≤ B0) : OwnFrom B0 (DivIn w K gR ly lr tl X Y YL) := by
  intro pre W W' row h hg hr
  obtain ⟨R, T, k, h1, h2, h3, h4, h5, h6, h7, h8, h9, h10⟩ := h
  have kc : ∀ {b : Nat} {c : Array Value} {e : TypeId} {z : Nat × Nat}, W.heap[b]? = some (.cells c e z) → W'.heap[b]? = some (.cells c e z) :=
    fun hb => (grownBy_keeps_cells hg (fun r e => (hr r e).2) hb rfl).trans hb
  refine ⟨R, T, k, h1, h2, h3, h4, h5, h6, h7, h8, h9.mono kc, ⟨hg.os.trans h10.os, hg.tape.trans h10.tape, hg.output.trans h10.output, Nat.le_trans h10.size hg.size, fun j hj => ?_⟩⟩
  have hjW : j < W.heap.size := Nat.lt_of_lt_of_le hj h10.size
  exact (hg.block j hjW (fun e => by have := (hr j e.symm).1; omega)).trans (h10.block j hj)
theorem range_wide_puts {α : Type} {P : Program} {n : Nat} {g : Operand} {ps : Array Tmp} {assign body : Code} {Q : Exit → Act → World → Prop} {a : Act} {w : World} (h1 : 1 ≤ n)
    {gf : Nat} {lb : Array Value} (hg : a.eval g = .func (.func gf) #[] lb) (eg : ∀ args w, (callFunc gf args).run P w = .ok (.enter gf args) w)
    {encs : α → Array Value} (hps : ∀ x, (encs x).size = ps.size) (T : List α → α → Prop) (S Sp : List α → Prop) (I : List α → World → Prop) (Ix : Code → List α → World → Prop)
    (hiter : Iterates (n - 1) P gf lb encs T S Sp I) (hI : OwnFrom w.heap.size I) (hIx : ∀ c, OwnFrom w.heap.size (Ix c)) (h0 : I [] w) (lx : α → List (Nat × Value))
    (hassign : ∀ (l : Nat) (x : α) (W : World) (K : Act → World → Prop), K (puts { tmps := a.tmps, defers := [] } (lx x)) W →
      assign.wpIn (Fence.wide.inRound l) (n - 1 - 1) P (Exit.then K (fun _ _ _ => False)) { tmps := (ps.zip (encs x)).foldl (fun t (p, v) => t.setIfInBounds p v) a.tmps, defers := [] } W)
    (hbody : ∀ (l : Nat) (pre : List α) (x : α) (W : World), I pre W → T pre x → body.wpIn (Fence.wide.inRound l) (n - 1 - 1) P (roundEnds w.heap.size I Ix (pre ++ [x]) W) (puts { tmps := a.tmps, defers := [] } (lx x)) W)
    (hdone : ∀ (D : Nat) (xs : List α) (W : World), w.heap.size ≤ D → S xs → I xs W → W.heap[D]? = some (.deferred (some [])) → Q .normal { a with defers := { target := .collected D, args := #[] } :: a.defers } W)
    (hstop : ∀ (D : Nat) (c : Code) (pre : List α) (W : World), w.heap.size ≤ D → Sp pre → Ix c pre W → W.heap[D]? = some (.deferred (some [])) → c.wpIn Fence.wide n P Q { a with defers := { target := .collected D, args := #[] } :: a.defers } W) :
    (Code.rangeFunc g ps assign body).wpIn Fence.wide n P Q a w :=
  range_wide h1 hg eg hps T S Sp I Ix hiter hI hIx h0 (fun x => puts { tmps := a.tmps, defers := [] } (lx x)) hassign hbody hdone hstop
theorem pow_le_shift {M s : Nat} (h : 0 < (L M).length) : 4294967296 ^ ((L M).length - 1) ≤ M * 2 ^ s := by
  have h1 := pow_le_of_len h
  have h2 : M * 1 ≤ M * 2 ^ s := Nat.mul_le_mul_left _ (Nat.pow_pos (by omega))
  omega
theorem div_round_end {w W W' w6 : World} {K gR ly lr tl X Y i n xv q B0 : Nat} {YL R T Q : List Nat} {pre : List (Nat × Nat)} (h1 : i + 1 + pre.length = tl) (h2 : R.length = lr) (h3 : Lim R) (h4 : T.length = tl) (h5 : Lim T) (h6 : ∀ j, j < i + 1 → T.getD j 0 = 0)
    (h9 : DivAt w.heap.size K gR ly lr tl YL R T W) (h10 : Below w.heap.size w W) (hg1 : w.heap.size + 1 < gR) (hg2 : gR < K) (hB0 : gR < B0) (hn : i + n + 1 ≤ lr)
    (w1 : ∀ k : Nat, W'.heap[k]? = W.heap[k]?) (w2 : W'.heap.size = W.heap.size) (w3 : W'.os = W.os) (w4 : W'.tape = W.tape) (w5 : W'.output = W.output)
    (q1 : PartAt w6 gR lr (R.take i) Q (R.drop (i + n + 1))) (q2 : Q.length = n + 1) (q3 : Lim Q) (q5 : W'.grownBy w6 (some gR)) (hq : q < 4294967296)
    (m : V (R.take i ++ Q ++ R.drop (i + n + 1)) + Y * (4294967296 ^ i * V ((T.set i q).drop i)) = X ∧ V ((R.take i ++ Q ++ R.drop (i + n + 1)).drop i) < Y) :
    KeepsFrom B0 W (w6.setCell ⟨K + 1, i, none⟩ (.int .u32 (q : Int))) ∧ DivIn w K gR ly lr tl X Y YL (pre ++ [(i, xv)]) (w6.setCell ⟨K + 1, i, none⟩ (.int .u32 (q : Int))) := by
  have hg6 : W.grownBy w6 (some gR) := ⟨q5.os.trans w3, q5.tape.trans w4, q5.output.trans w5, by have := q5.size; omega, fun k hk hne => (q5.block k (by omega) hne).trans (w1 k)⟩
  have hKW : K + 3 < W.heap.size := (Array.getElem?_eq_some_iff.1 h9.boxC).1
  have kb : ∀ k, k < W.heap.size → k ≠ gR → k ≠ K + 1 → (w6.setCell ⟨K + 1, i, none⟩ (.int .u32 (q : Int))).heap[k]? = W.heap[k]? := fun k hk hne hne2 => by
    rw [Below.heap_setCell _ _ _ _ (by simpa using hne2), hg6.block k hk (by simpa using hne)]
  refine ⟨(KeepsFrom.of_grownBy hg6 (fun j hj => by cases hj; exact hB0)).trans ((KeepsOthers.setCell _ _ _).from _), R.take i ++ Q ++ R.drop (i + n + 1), T.set i q, i, by simp; omega, ?_, ?_, by simpa using h4, h5.set _ _ hq, fun j hj => ?_, m.1, m.2, ⟨?_, ?_, ?_, ?_, ?_, ?_, ?_⟩, ?_⟩
  · simp only [List.length_append, List.length_take, List.length_drop, q2]; omega
  · exact ((h3.take _).append q3).append (h3.drop _)
  · rw [Rep.getD_set_ne (by omega)]; exact h6 j (by omega)
  · rw [kb _ (by omega) (by omega) (by omega)]; exact h9.boxY
  · exact h9.rowY.of_block (kb _ (by omega) (by omega) (by omega))
  · rw [kb _ (by omega) (by omega) (by omega)]; exact h9.boxR
  · exact Row.other q1 _ _ (by simp; omega)
  · rw [kb _ (by omega) (by omega) (by omega)]; exact h9.boxT
  · rw [kb _ (by omega) (by omega) (by omega)]; exact h9.boxC
  · have h := (h9.rowT.of_block (hg6.block _ (by omega) (by simp; omega))).set i (u32v q)
    rw [← List.map_set] at h
    exact h
  · have h11 : Below w.heap.size w w6 := h10.grown hg6 h10.size (fun k hk => by cases hk; omega)
    exact h11.setCell (by simp; omega) _
theorem div_contracts {w W : World} {K gR M s lr tl X i k0 : Nat} {YL R T : List Nat} {pre : List (Nat × Nat)} (hin : i + 1 + pre.length = tl ∧ R.length = lr ∧ Lim R ∧ T.length = tl ∧ Lim T ∧ (∀ j, j < i + 1 → T.getD j 0 = 0) ∧ V R + M * 2 ^ s * (4294967296 ^ (i + 1) * V (T.drop (i + 1))) = X ∧ V (R.drop (i + 1)) < M * 2 ^ s ∧
      DivAt w.heap.size K gR (L M).length lr tl YL R T W ∧ Below w.heap.size w W)
    (hi : i < tl) (hil : i + (L M).length + 1 ≤ lr) (hl : 2 ≤ (L M).length) (hy : YL.length = (L M).length + 1 ∧ Lim YL ∧ V YL = M * 2 ^ s) (hnm : M * 2 ^ s < 4294967296 ^ (L M).length) (hge : 4294967296 ^ ((L M).length - 1) ≤ M * 2 ^ s)
    (hg1 : w.heap.size + 1 < gR) (hg2 : gR < K) (hB0 : gR < k0) (hb : (L M).length ≤ 2000000) (xv : Nat) :
    ∃ q : Nat, Hid (∀ W', Below W.heap.size W W' → Calls Tryz.prog 114 #[.slice (some ⟨gR, i, none⟩) ((L M).length + 1) (lr - i), .slice (some ⟨w.heap.size + 1, 0, none⟩) (L M).length ((L M).length + 1)] W' (GivesGuess q W')) ∧
      Hid (∀ W' t, Below W.heap.size W W' → q ≤ t → t ≤ q + 1 → t < 4294967296 → (W'.heap = W.heap ∧ W'.os = W.os ∧ W'.tape = W.tape ∧ W'.output = W.output) → Calls Tryz.prog 113 #[.slice (some ⟨gR, i, none⟩) ((L M).length + 1) (lr - i), .slice (some ⟨w.heap.size + 1, 0, none⟩) (L M).length ((L M).length + 1), .int .u32 (t : Int)] W'
        (fun e w6 => e = .returned (.int .u32 (q : Int)) ∧ W'.grownBy w6 (some gR) ∧ Hid (KeepsFrom k0 W (w6.setCell ⟨K + 1, i, none⟩ (.int .u32 (q : Int))) ∧ DivIn w K gR (L M).length lr tl X (M * 2 ^ s) YL (pre ++ [(i, xv)]) (w6.setCell ⟨K + 1, i, none⟩ (.int .u32 (q : Int)))))) ∧ q < 4294967296 := by
  obtain ⟨h1, h2, h3, h4, h5, h6, h7, h8, h9, h10⟩ := hin
  obtain ⟨m1, m2⟩ := div_next (n := (L M).length) h3 (by omega) (by omega) h7 h8 (Nat.le_of_lt hnm)
  obtain ⟨y1, y2⟩ := norm_row hy.1 hy.2.1 hy.2.2 hnm (by omega) hge
  have hpart : PartAt W gR lr (R.take i) ((R.drop i).take ((L M).length + 1)) (R.drop (i + (L M).length + 1)) := by
    unfold PartAt; rw [part_split R i _ (by omega)]; exact h9.rowR
  have hal : (R.take i).length = i := by rw [List.length_take]; omega
  have hpl : ((R.drop i).take ((L M).length + 1)).length = (L M).length + 1 := by rw [List.length_take, List.length_drop]; omega
  have hyl : (YL.take (L M).length).length = (L M).length := by rw [List.length_take]; omega
  have hry : Reads W (some ⟨w.heap.size + 1, 0, none⟩) ((YL.take (L M).length).map u32v) := by
    have := h9.rowY.reads0.take (L M).length
    rwa [← List.map_take] at this
  have hq : V ((R.drop i).take ((L M).length + 1)) / (M * 2 ^ s) < 4294967296 := by
    rw [Nat.div_lt_iff_lt_mul (by omega)]; exact m1
  have hlp : Lim ((R.drop i).take ((L M).length + 1)) := (h3.drop i).take _
  refine ⟨V ((R.drop i).take ((L M).length + 1)) / (M * 2 ^ s), Lib.hid fun W' hW' => ?_, Lib.hid fun W' t hW' t1 t2 t3 hWW => ?_, hq⟩
  · obtain ⟨mm, hmm⟩ : ∃ mm, (L M).length = mm + 2 := ⟨(L M).length - 2, by omega⟩
    have := guess_any gR lr (lr - i) ((L M).length + 1) (w.heap.size + 1) mm (R.take i) ((R.drop i).take ((L M).length + 1)) (R.drop (i + (L M).length + 1)) (YL.take (L M).length) W' (Row.kept hpart hW') hlp (by rw [hpl]; omega) (by omega) (by omega) (hy.2.1.take _) (by rw [hyl]; omega) (hry.kept hW') (by omega)
      (by rw [show mm + 1 = (L M).length - 1 from by omega]; exact y2) (by rw [y1]; exact m1)
    rw [hal, y1, show mm + 3 = (L M).length + 1 from by omega, show mm + 2 = (L M).length from by omega] at this
    exact this
  · have := takeTimes_any gR lr (lr - i) ((L M).length + 1) t (R.take i) ((R.drop i).take ((L M).length + 1)) (R.drop (i + (L M).length + 1)) (YL.take (L M).length) (some ⟨w.heap.size + 1, 0, none⟩) W' (Row.kept hpart hW') hlp (by rw [hpl, hyl]) (by rw [hpl]; omega) (hy.2.1.take _) (hry.kept hW')
      (.inr fun g' off e => by cases e; simp; omega) (by rw [hyl]; omega) t3 (by rw [y1]; omega) (by rw [y1]; exact t1) (by rw [y1]; exact t2)
    rw [hal, hpl, hyl, y1] at this
    refine this.mono ?_
    rintro e w6 ⟨rfl, Q, q1, q2, q3, q4, q5⟩
    rw [hpl] at q2
    exact ⟨rfl, q5, Lib.hid (div_round_end h1 h2 h3 h4 h5 h6 h9 h10 hg1 hg2 hB0 hil (fun k => by rw [hWW.1]) (by rw [hWW.1]) hWW.2.1 hWW.2.2.1 hWW.2.2.2 q1 q2 q3 q5 hq (m2 Q q2 q4))⟩
theorem div_start {w w3 : World} {gR M N s tl : Nat} {YL XL : List Nat} (hbY : w3.heap[w.heap.size]? = some (.cells #[.slice (some ⟨w.heap.size + 1, 0, none⟩) (L M).length ((L M).length + 1)] 23 (0, 0))) (hg1 : w.heap.size + 1 < gR) (hg2 : gR + 1 ≤ w3.heap.size)
    (h3 : Row 68 w3 (w.heap.size + 1) ((L M).length + 1) (YL.map u32v) ∧ Below w.heap.size w w3 ∧ Row 68 w3 gR ((L N).length + 1) (XL.map u32v) ∧ XL.length = (L N).length + 1 ∧ Lim XL ∧ V XL = V (L N) * 2 ^ s) (htl : tl + (L M).length = (L N).length + 1) (hm : 0 < (L M).length) :
    DivIn w w3.heap.size gR (L M).length ((L N).length + 1) tl (N * 2 ^ s) (M * 2 ^ s) YL []
      ((((w3.alloc (.cells #[.slice (some ⟨gR, 0, none⟩) ((L N).length + 1) ((L N).length + 1)] 23)).alloc (.cells (zrow .u32 tl) 68)).alloc (.cells #[.slice (some ⟨w3.heap.size + 1, 0, none⟩) tl tl] 23)).alloc (.cells #[.slice (some ⟨w3.heap.size + 1, 0, none⟩) tl tl] 23)) := by
  obtain ⟨r1, r2, r3, r4, r5, r6⟩ := h3
  rw [V_L] at r6
  have hz : ∀ j, (List.replicate tl 0).getD j 0 = 0 := fun j => by simp [List.getD_eq_getElem?_getD, List.getElem?_replicate]; split <;> rfl
  refine ⟨XL, List.replicate tl 0, tl, rfl, r4, r5, by simp, Dig.replicate _ _ _ (by omega), fun j _ => hz j, ?_, div_first r4 r5 r6 hm htl, ⟨?_, ?_, ?_, ?_, ?_, ?_, ?_⟩, ?_⟩
  · rw [List.drop_of_length_le (by simp), r6]; simp [V, Rep.val]
  · rw [Below.heap_alloc _ _ _ (by simp; omega), Below.heap_alloc _ _ _ (by simp; omega), Below.heap_alloc _ _ _ (by simp; omega), Below.heap_alloc _ _ _ (by omega)]
    exact hbY
  · exact (((r1.alloc _).alloc _).alloc _).alloc _
  · rw [Below.heap_alloc _ _ _ (by simp; omega), Below.heap_alloc _ _ _ (by simp; omega), Below.heap_alloc _ _ _ (by simp)]
    exact heap_alloc_new w3 _
  · exact (((r3.alloc _).alloc _).alloc _).alloc _
  · rw [Below.heap_alloc _ _ _ (by simp)]
    simpa using heap_alloc_new ((w3.alloc (.cells #[.slice (some ⟨gR, 0, none⟩) ((L N).length + 1) ((L N).length + 1)] 23)).alloc (.cells (zrow .u32 tl) 68)) (.cells #[.slice (some ⟨w3.heap.size + 1, 0, none⟩) tl tl] 23)
  · simpa using heap_alloc_new (((w3.alloc (.cells #[.slice (some ⟨gR, 0, none⟩) ((L N).length + 1) ((L N).length + 1)] 23)).alloc (.cells (zrow .u32 tl) 68)).alloc (.cells #[.slice (some ⟨w3.heap.size + 1, 0, none⟩) tl tl] 23)) (.cells #[.slice (some ⟨w3.heap.size + 1, 0, none⟩) tl tl] 23)
  · have h := Row.zrow (E := 68) .u32 (w3.alloc (.cells #[.slice (some ⟨gR, 0, none⟩) ((L N).length + 1) ((L N).length + 1)] 23)) tl
    rw [World.size_alloc] at h
    rw [show (List.replicate tl 0).map u32v = List.replicate tl (Value.int .u32 0) from by rw [List.map_replicate]; rfl]
    exact (h.alloc _).alloc _
  · exact ((((r2.alloc r2.size _).alloc (by simp; omega) _).alloc (by simp; omega) _).alloc (by simp; omega) _)
theorem div_ends {w W : World} {K gR M N s tl ly : Nat} {YL R T : List Nat} (h2 : R.length = (L N).length + 1) (h3 : Lim R) (h4 : T.length = tl) (h5 : Lim T) (h7 : V R + M * 2 ^ s * V T = N * 2 ^ s) (h8 : V R < M * 2 ^ s) (h9 : DivAt w.heap.size K gR ly ((L N).length + 1) tl YL R T W) (hb : (L N).length ≤ 2000000) (htl : tl ≤ 2000001) (hs : s < 32) (hg1 : w.heap.size + 1 < gR) (hg2 : gR < K) :
    Hid (∀ W' : World, W'.heap = W.heap → Calls Tryz.prog 71 #[.slice (some ⟨K + 1, 0, none⟩) tl tl] W' fun e w' => ∃ a' c', e = .returned (.slice a' (L (N / M)).length c') ∧ Hid (Own w.heap.size w' a' c' (L (N / M)) ∧ (a' = none ∨ blk a' ≠ some gR)) ∧ W' = w') ∧
      Hid (∀ W' : World, W'.heap = W.heap → Calls Tryz.prog 109 #[.slice (some ⟨gR, 0, none⟩) ((L N).length + 1) ((L N).length + 1), .int .i64 (s : Int)] W' fun e w' => ∃ a' c', e = .returned (.slice a' (L (N % M)).length c') ∧ Hid (Own w.heap.size w' a' c' (L (N % M))) ∧ Hid (W'.grownBy w' (some gR))) := by
  obtain ⟨d1, d2⟩ := div_last h7 h8
  refine ⟨Lib.hid fun W' hW => ?_, Lib.hid fun W' hW => ?_⟩
  · refine (trim_own w.heap.size (some ⟨K + 1, 0, none⟩) tl tl T h4 W' h5 ⟨by unfold maxLen; omega, .inr ⟨K + 1, rfl, by omega, h9.rowT.of_block (by rw [hW])⟩⟩).mono ?_
    rintro e w' ⟨a', c', rfl, o1, o2, rfl⟩
    rw [d1] at o1 ⊢
    refine ⟨a', c', rfl, Lib.hid ⟨o1, ?_⟩, rfl⟩
    rcases o2 with o2 | o2
    · exact .inl o2
    · rw [o2]; exact .inr (by simp [blk]; omega)
  · have := shiftRight_row w.heap.size gR ((L N).length + 1) 0 s R W' h3 (by omega) (by unfold maxLen; omega) (h9.rowR.of_block (by rw [hW])) (by omega) hs (by omega)
    rw [Nat.mul_zero, Nat.zero_add, h2, d2] at this
    refine this.mono ?_
    rintro e w' ⟨a', c', rfl, o1, o2, o3⟩
    exact ⟨a', c', rfl, Lib.hid o1, Lib.hid o3⟩
theorem div_given {w W W2 w' : World} {gR q r D : Nat} {a1 a2 : Option Addr} {c1 c2 : Nat} (h10 : Below w.heap.size w W) (hW : W2.heap = W.heap) (w3 : W2.os = W.os) (w4 : W2.tape = W.tape) (w5 : W2.output = W.output) (o1 : Own w.heap.size W2 a1 c1 (L q) ∧ (a1 = none ∨ blk a1 ≠ some gR))
    (o2 : Own w.heap.size w' a2 c2 (L r)) (hg : W2.grownBy w' (some gR)) (hg1 : w.heap.size ≤ gR) (hD : w.heap.size ≤ D) (hKD : W.heap[D]? = some (.deferred (some []))) (hgD : gR < D) :
    w'.heap[D]? = some (.deferred (some [])) ∧ GivesDiv q r w (.returned (.tuple #[.slice a1 (L q).length c1, .slice a2 (L r).length c2])) (w'.putObj D (.deferred none)) := by
  have hDl : D < W2.heap.size := by rw [hW]; exact (Array.getElem?_eq_some_iff.1 hKD).1
  have hDw : w'.heap[D]? = some (.deferred (some [])) := (hg.block D hDl (by simp; omega)).trans (by rw [hW]; exact hKD)
  have kp : ∀ {B : Nat} {a : Option Addr} {c : Nat} {xs : List Nat}, Own B w' a c xs → Own B (w'.putObj D (.deferred none)) a c xs := by
    intro B a c xs ho
    obtain ⟨hc, hh | ⟨g, rfl, hB, hr⟩⟩ := ho
    · exact ⟨hc, .inl hh⟩
    · refine ⟨hc, .inr ⟨g, rfl, hB, hr.of_block (World.putObj_heap_other fun e => ?_)⟩⟩
      obtain ⟨cur, hcur, _⟩ := hr
      rw [e, hDw] at hcur
      cases hcur
  refine ⟨hDw, a1, c1, a2, c2, rfl, kp (OwnR.own (o1.1.r.grown hg o1.2)), kp o2, ?_⟩
  have hB : Below w.heap.size w w' := (show Below w.heap.size w W2 from ⟨w3.trans h10.os, w4.trans h10.tape, w5.trans h10.output, by rw [hW]; exact h10.size, fun k hk => by rw [hW]; exact h10.block k hk⟩).grown hg (by rw [hW]; exact h10.size) (fun k hk => by cases hk; exact hg1)
  exact ⟨hB.os, hB.tape, hB.output, by simp only [World.putObj_size]; exact hB.size, fun k hk => by rw [World.putObj_heap_other (by omega)]; exact hB.block k hk⟩
set_option maxRecDepth 100000 in
set_option maxHeartbeats 2000000 in
theorem divideLong_any (ax ay : Option Addr) (cx cy N M : Nat) (w : World) (hx : NumAt w ax cx N) (hy : NumAt w ay cy M) (hl : 2 ≤ (L M).length) (hle : M ≤ N) (hb : (L N).length ≤ 2000000) :
    Calls Tryz.prog 103 #[.slice ax (L N).length cx, .slice ay (L M).length cy] w (GivesDiv (N / M) (N % M) w) := by
  have hlen : (L M).length ≤ (L N).length := rep_len_mono (by omega) hle
  obtain ⟨gy, oy, rfl, hgy, hcy⟩ := hy.1.open' (by rw [List.length_map]; omega)
  have hck := hcy ((L M).length - 1) _ (map_getElem? (xs := L M) (by omega))
  have htop : 0 < (L M).getD ((L M).length - 1) 0 := top_limb (by omega)
  have htop2 : (L M).getD ((L M).length - 1) 0 < 4294967296 := (L_lim M).getD _ (by omega)
  unfold u32v at hck
  clear hcy
  obtain ⟨s, hs, hbl, hnm⟩ := bitLen_range htop htop2
  have HNM : Hid (M * 2 ^ s < 4294967296 ^ (L M).length) := Lib.hid (norm_lt (by omega) hnm)
  clear hnm
  generalize (L M).getD ((L M).length - 1) 0 = t at *
  have hyc := hy.2.1
  have hyc2 := hy.2.2
  unfold maxLen at hyc2
  refine (callsIn_wide (n := 3)).1 ?_
  refine callsIn_of_wp_marks Tryz.func103 rfl trivial ?_ rfl
  simp only [Tryz.ntmps103, List.size_toArray, List.length_cons, List.length_nil, Nat.reduceAdd, Nat.reduceSub, Array.replicate_succ, Array.replicate_zero, List.push_toArray, List.append_toArray, List.nil_append, List.cons_append]
  gi_wp2_with fail
  refine ⟨trivial, ?_⟩
  refine (callsIn_wide.2 (Tryz.bits_LeadingZeros32 t _ (by omega) (by omega))).mono ?_
  rintro e w' ⟨rfl, rfl⟩
  rw [show ((t : Int).toNat) = t from by omega, hbl]
  gi_wp2_with fail
  refine wpIn_wide.2 ?_
  have HSH : Hid (∀ W : World, Below w.heap.size w W → Calls Tryz.prog 112 #[.slice (some ⟨gy, oy, none⟩) (L M).length cy, .int .i64 (s : Int)] W (GivesShl (L M) s W)) :=
    Lib.hid (fun W hW => shiftLeft_any (some ⟨gy, oy, none⟩) (L M) cy s W (L_lim M) (hy.1.kept hW) (by omega) hs)
  have HW1 : Hid (Below w.heap.size w (w.alloc (.cells #[.slice (some ⟨gy, oy, none⟩) (L M).length cy] 23))) := Lib.hid ((Below.refl _ _).alloc (Nat.le_refl _) _)
  have hbx : (w.alloc (.cells #[.slice (some ⟨gy, oy, none⟩) (L M).length cy] 23)).heap[w.heap.size]? = some (.cells #[.slice (some ⟨gy, oy, none⟩) (L M).length cy] 23 (0, 0)) := heap_alloc_new w _
  have hsz : (w.alloc (.cells #[.slice (some ⟨gy, oy, none⟩) (L M).length cy] 23)).heap.size = w.heap.size + 1 := by simp
  generalize w.alloc (.cells #[.slice (some ⟨gy, oy, none⟩) (L M).length cy] 23) = W1 at *
  have hc0 : W1.cell? ⟨w.heap.size, 0, none⟩ = some (.slice (some ⟨gy, oy, none⟩) (L M).length cy) := by simp [World.cell?, hbx]
  have hf0 : W1.frozen? ⟨w.heap.size, 0, none⟩ = false := by simp [World.frozen?, hbx]
  refine wp_region_puts [(18, .slice (some ⟨gy, oy, none⟩) (L M).length cy), (19, .int .i64 (s : Int)), (20, .slice (some ⟨w.heap.size + 1, 0, none⟩) ((L M).length + 1) ((L M).length + 1)), (21, .slice (some ⟨gy, oy, none⟩) (L M).length cy),
    (22, .int .i64 ((L M).length : Int)), (23, .slice (some ⟨w.heap.size + 1, 0, none⟩) (L M).length ((L M).length + 1))] (BoxY w s M) ?region ?mono
  case region =>
    go_region_with (first
      | (go_at_call 112
         refine (HSH.out _ ?_).mono ?_
         · have h := HW1.out; exact ⟨h.os, h.tape, h.output, h.size, h.block⟩
         rintro e w' ⟨Q, rfl, hrow, hql, hlim, hv, hb⟩
         have hb' : Below W1.heap.size W1 w' := ⟨hb.os, hb.tape, hb.output, hb.size, hb.block⟩
         have hc1 : w'.cell? ⟨w.heap.size, 0, none⟩ = some (.slice (some ⟨gy, oy, none⟩) (L M).length cy) := (hb'.cell (by simp; omega)).trans hc0
         have hh1 : w'.heap[w.heap.size]? = W1.heap[w.heap.size]? := hb'.block _ (by omega)
         have hf1 : w'.frozen? ⟨w.heap.size, 0, none⟩ = false := by simp [World.frozen?, hh1, hbx]
         have HR := Lib.hid (boxY_of (HW1.out) hsz hbx hb' hrow hql hlim hv)
         clear hrow hql hlim hv hb hb' hh1)
      | fail)
    all_goals exact ⟨rfl, HR.out⟩
  case mono =>
    intro w2 hR
    simp only [puts, Act.put]
    obtain ⟨YL, y1, y2, y3, y4, y5, y6⟩ := hR
    have HY := Lib.hid (And.intro y1 (And.intro y2 (And.intro y3 (And.intro y4 (And.intro y5 y6)))))
    have hxs := Lib.hid (shiftLeft_any ax (L N) cx s w2 (L_lim N) (hx.1.kept y6) (by omega) hs)
    have hsz2 := y6.size
    clear y1 y2 y3 y4 y5 y6 hbx hsz hc0 hf0 HW1 HSH
    gi_wp2_with fail
    refine ⟨trivial, ?_⟩
    refine (callsIn_wide.2 hxs.out).mono ?_
    rintro e w3 ⟨XL, rfl, x1, x2, x3, x4, x5⟩
    have hK : w2.heap.size + 1 ≤ w3.heap.size := by have := x1.lt; omega
    have hbY := (x5.block w.heap.size (by have := HY.out.2.1.lt; omega)).trans HY.out.1
    have hrY := HY.out.2.1.kept x5
    have hB3 := HY.out.2.2.2.2.2.trans (x5.mono hsz2)
    have HYL := Lib.hid (And.intro HY.out.2.2.1 (And.intro HY.out.2.2.2.1 HY.out.2.2.2.2.1))
    have H3 := Lib.hid (And.intro hrY (And.intro hB3 (And.intro x1 (And.intro x2 (And.intro x3 x4)))))
    have hgY := hrY.lt
    have hgR : w.heap.size + 1 < w2.heap.size := HY.out.2.1.lt
    clear x1 x2 x3 x4 x5 hrY hB3 hxs HY
    generalize hgr : w2.heap.size = gR at *
    clear hgr
    obtain ⟨tl, htl⟩ : ∃ tl, tl = (L N).length - (L M).length + 1 := ⟨_, rfl⟩
    have hmk := make_run (P := Tryz.prog) Tryz.underlying23 Tryz.info48 (((L N).length : Int) - ((L M).length : Int) + 1) (((L N).length : Int) - ((L M).length : Int) + 1) tl tl (by omega) (by omega) (Nat.le_refl _) (by omega) (by unfold maxLen; omega)
    have hcY : w3.cell? ⟨w.heap.size, 0, none⟩ = some (.slice (some ⟨w.heap.size + 1, 0, none⟩) (L M).length ((L M).length + 1)) := by simp [World.cell?, hbY]
    have hYlt : w.heap.size < w3.heap.size := by omega
    have HTL := Lib.hid htl
    have htlb : tl ≤ 2000001 := by omega
    clear htl
    gi_wp2_with fail
    refine ⟨trivial, ?_⟩
    refine (callsIn_wide.2 (back_maker _ _ _ _)).mono ?_
    rintro e w' ⟨rfl, rfl⟩
    gi_wp2_with fail
    refine range_wide_puts (n := 3) (by omega) (gf := 96) (lb := #[.pointer (some ⟨w3.heap.size + 3, 0, none⟩)]) (by simp [Act.eval]) (enters_of Tryz.func96 (by kernel_rfl) rfl) (encs := encBack) (fun _ => rfl)
      (Down (List.replicate tl 0)) (fun pre => pre.length = (List.replicate tl 0).length) (fun _ => True) (DivIn w w3.heap.size gR (L M).length ((L N).length + 1) tl (N * 2 ^ s) (M * 2 ^ s) YL) (fun _ _ _ => False)
      ?iter
      (div_own w _ _ _ _ _ _ _ _ YL (by simp; omega)) (fun _ _ _ _ _ hs _ _ => hs) ?h0
      (fun x => [(36, .int .i64 (x.1 : Int)), (37, .int .u32 (x.2 : Int)), (9, .int .i64 (x.1 : Int))]) ?assign ?body ?done ?stop
    case iter =>
      refine back_iter _ (by omega) (w3.heap.size + 3) tl (some ⟨w3.heap.size + 1, 0, none⟩) (List.replicate tl 0) (by simp; omega) _ ?_
      rintro pre W ⟨R, T, k, h1, h2, h3, h4, h5, h6, h7, h8, h9, h10⟩
      refine ⟨by simp [World.cell?, h9.boxC], fun i hi => ⟨w3.heap.size + 1, 0, rfl, ?_⟩⟩
      simp only [List.length_replicate] at hi
      have := h9.rowT.cell i _ (map_getElem? (xs := T) (by omega))
      rw [h6 i (by omega)] at this
      rw [show (List.replicate tl 0).getD i 0 = 0 from by simp [List.getD_eq_getElem?_getD, List.getElem?_replicate]; split <;> rfl, Nat.zero_add]
      simpa [u32v] using this
    case h0 => exact div_start hbY hgR hK H3.out (by have := HTL.out; omega) (by omega)
    case assign =>
      rintro l ⟨i, xv⟩ W K hK
      dsimp only [encBack] at hK ⊢
      simp only [puts, Act.put] at hK
      gi_wp2
      exact hK
    case body =>
      rintro l pre ⟨i, xv⟩ W hS hT
      simp only [puts, Act.put]
      obtain ⟨R, T, k, h1, h2, h3, h4, h5, h6, h7, h8, h9, h10⟩ := hS
      obtain ⟨t1, t2, t3⟩ := hT
      simp only [List.length_replicate] at t1 t2
      have hk : k = i + 1 := by omega
      subst hk
      have hi : i < tl := by omega
      have c0 : W.cell? ⟨w.heap.size, 0, none⟩ = some (.slice (some ⟨w.heap.size + 1, 0, none⟩) (L M).length ((L M).length + 1)) := by simp [World.cell?, h9.boxY]
      have c1 : W.cell? ⟨w3.heap.size, 0, none⟩ = some (.slice (some ⟨gR, 0, none⟩) ((L N).length + 1) ((L N).length + 1)) := by simp [World.cell?, h9.boxR]
      have c2 : W.cell? ⟨w3.heap.size + 2, 0, none⟩ = some (.slice (some ⟨w3.heap.size + 1, 0, none⟩) tl tl) := by simp [World.cell?, h9.boxT]
      have hil : i + (L M).length + 1 ≤ (L N).length + 1 := by have := HTL.out; omega
      have HIN := Lib.hid (And.intro h1 (And.intro h2 (And.intro h3 (And.intro h4 (And.intro h5 (And.intro h6 (And.intro h7 (And.intro h8 (And.intro h9 h10)))))))))
      have hWsz : w3.heap.size + 3 < W.heap.size := (Array.getElem?_eq_some_iff.1 h9.boxC).1
      have ct : W.cell? ⟨w3.heap.size + 1, i, none⟩ = some (.int .u32 (T.getD i 0 : Nat)) := h9.rowT.cell _ _ (map_getElem? (xs := T) (by omega))
      have cf : W.frozen? ⟨w3.heap.size + 1, i, none⟩ = false := h9.rowT.frozen _
      generalize T.getD i 0 = t0 at ct
      clear h1 h2 h3 h4 h5 h6 h7 h8 h9 h10
      gi_wp2_with fail
      rw [show i + (L M).length + 1 - i = (L M).length + 1 from by omega]
      obtain ⟨q, HGU, HTK, HEN⟩ := div_contracts HIN.out hi hil hl HYL.out HNM.out (pow_le_shift (by omega)) hgR hK (k0 := (((((w3.alloc (.cells #[.slice (some ⟨gR, 0, none⟩) ((L N).length + 1) ((L N).length + 1)] 23)).alloc (.cells (zrow .u32 tl) 68)).alloc (.cells #[.slice (some ⟨w3.heap.size + 1, 0, none⟩) tl tl] 23)).alloc (.cells #[.slice (some ⟨w3.heap.size + 1, 0, none⟩) tl tl] 23))).heap.size) (by simp; omega) (by omega) xv
      refine wpIn_region_held (S := fun w' => w'.cell? ⟨w.heap.size, 0, none⟩ = some (.slice (some ⟨w.heap.size + 1, 0, none⟩) (L M).length ((L M).length + 1)) ∧ w'.cell? ⟨w3.heap.size + 2, 0, none⟩ = some (.slice (some ⟨w3.heap.size + 1, 0, none⟩) tl tl)) (by kernel_rfl) (by kernel_rfl) (by rintro ⟨_, _, h⟩; exact h) ⟨by simpa using c0, by simpa using c2⟩ (fun hHeld => ?_)
      refine wpAnyH_take (i := 0) (v := ?_) (by rfl) (by kernel_rfl) (by kernel_rfl) (by kernel_rfl) (fun _ _ _ h => h) (Or.inl ⟨by rfl, ?_⟩) hHeld ?_
      rotate_left 1
      · intro w' hSw
        go_simp
        try with_reducible rfl
      try simp only [Act.put, List.setIfInBounds_toArray, List.set_cons_zero, List.set_cons_succ, List.getElem_toArray, List.getElem_cons_zero, List.getElem_cons_succ]
      refine wpAnyH_take (i := 1) (v := ?_) (by rfl) (by kernel_rfl) (by kernel_rfl) (by kernel_rfl) (fun _ _ _ h => h) (Or.inl ⟨by rfl, ?_⟩) hHeld ?_
      rotate_left 1
      · intro w' hSw
        go_simp
        try with_reducible rfl
      try simp only [Act.put, List.setIfInBounds_toArray, List.set_cons_zero, List.set_cons_succ, List.getElem_toArray, List.getElem_cons_zero, List.getElem_cons_succ]
      refine wpAnyH_take (i := 2) (v := ?_) (by rfl) (by kernel_rfl) (by kernel_rfl) (by kernel_rfl) (fun _ _ _ h => h) (Or.inl ⟨by rfl, ?_⟩) hHeld ?_
      rotate_left 1
      · intro w' hSw
        go_simp
        try with_reducible rfl
      try simp only [Act.put, List.setIfInBounds_toArray, List.set_cons_zero, List.set_cons_succ, List.getElem_toArray, List.getElem_cons_zero, List.getElem_cons_succ]
      refine wpAnyH_take (i := 3) (v := ?_) (by rfl) (by kernel_rfl) (by kernel_rfl) (by kernel_rfl) (fun _ _ _ h => h) (Or.inl ⟨by rfl, ?_⟩) hHeld ?_
      rotate_left 1
      · intro w' hSw
        go_simp
        try with_reducible rfl
      try simp only [Act.put, List.setIfInBounds_toArray, List.set_cons_zero, List.set_cons_succ, List.getElem_toArray, List.getElem_cons_zero, List.getElem_cons_succ]
      refine wpAnyH_take (i := 4) (v := ?_) (by rfl) (by kernel_rfl) (by kernel_rfl) (by kernel_rfl) (fun _ _ _ h => h) (Or.inl ⟨by rfl, ?_⟩) hHeld ?_
      rotate_left 1
      · intro w' hSw
        go_simp
        try with_reducible rfl
      try simp only [Act.put, List.setIfInBounds_toArray, List.set_cons_zero, List.set_cons_succ, List.getElem_toArray, List.getElem_cons_zero, List.getElem_cons_succ]
      refine wpAnyH_take (i := 5) (v := ?_) (by rfl) (by kernel_rfl) (by kernel_rfl) (by kernel_rfl) (fun _ _ _ h => h) (Or.inl ⟨by rfl, ?_⟩) hHeld ?_
      rotate_left 1
      · intro w' hSw
        go_simp
        try with_reducible rfl
      try simp only [Act.put, List.setIfInBounds_toArray, List.set_cons_zero, List.set_cons_succ, List.getElem_toArray, List.getElem_cons_zero, List.getElem_cons_succ]
      refine wpAnyH_ready (rs := [6]) (by kernel_rfl) (by simp) ?_
      refine AllReadyH.cons (by rfl) (fun K hK => ?_) AllReadyH.nil
      go_simp
      refine (HGU.out _ ?_).mono ?_
      · exact ⟨rfl, rfl, rfl, Nat.le_refl _, fun _ _ => rfl⟩
      rintro e w5 ⟨tq, nd, rfl, rfl, q1, q2, q3⟩
      refine hK.out _ _ ?_ (fun hHeld => ?_)
      · exact ⟨by simpa using c0, by simpa using c2⟩
      clear hK K
      try simp only [Act.put, List.setIfInBounds_toArray, List.set_cons_zero, List.set_cons_succ, List.getElem_toArray, List.getElem_cons_zero, List.getElem_cons_succ]
      refine wpAnyH_ready (rs := [7]) (by kernel_rfl) (by simp) ?_
      refine AllReadyH.cons (by rfl) (fun K hK => ?_) AllReadyH.nil
      go_simp
      refine (HTK.out _ tq ?_ q1 q2 q3 ?_).mono ?_
      · exact ⟨rfl, rfl, rfl, Nat.le_refl _, fun _ _ => rfl⟩
      · exact ⟨rfl, rfl, rfl, rfl⟩
      rintro e w6 ⟨rfl, hg6, hfin⟩
      have c0' : w6.cell? ⟨w.heap.size, 0, none⟩ = some (.slice (some ⟨w.heap.size + 1, 0, none⟩) (L M).length ((L M).length + 1)) := hg6.cell c0 (by simp; omega)
      have c2' : w6.cell? ⟨w3.heap.size + 2, 0, none⟩ = some (.slice (some ⟨w3.heap.size + 1, 0, none⟩) tl tl) := hg6.cell c2 (by simp; omega)
      have ct' : w6.cell? ⟨w3.heap.size + 1, i, none⟩ = some (.int .u32 (t0 : Int)) := hg6.cell ct (by simp; omega)
      have cf' : w6.frozen? ⟨w3.heap.size + 1, i, none⟩ = false := (World.frozen?_of_block (hg6.block _ (by simp; omega) (by simp; omega))).trans cf
      refine hK.out _ _ ?_ (fun hHeld => ?_)
      · exact ⟨c0', c2'⟩
      clear hK K hg6
      try simp only [Act.put, List.setIfInBounds_toArray, List.set_cons_zero, List.set_cons_succ, List.getElem_toArray, List.getElem_cons_zero, List.getElem_cons_succ]
      refine wpAnyH_take (i := 8) (v := ?_) (by rfl) (by kernel_rfl) (by kernel_rfl) (by kernel_rfl) (fun _ _ _ h => h) (Or.inl ⟨by rfl, ?_⟩) hHeld ?_
      rotate_left 1
      · intro w' hSw
        go_simp
        try with_reducible rfl
      try simp only [Act.put, List.setIfInBounds_toArray, List.set_cons_zero, List.set_cons_succ, List.getElem_toArray, List.getElem_cons_zero, List.getElem_cons_succ]
      refine wpAnyH_ready (rs := [9]) (by kernel_rfl) (by simp) ?_
      refine AllReadyH.cons (by rfl) (fun K hK => ?_) AllReadyH.nil
      go_simp
      refine hK.out _ _ ?_ (fun hHeld => ?_)
      · exact ⟨by rw [World.cell?_setCell_far _ _ _ _ (by simp; omega)]; exact c0', by rw [World.cell?_setCell_far _ _ _ _ (by simp)]; exact c2'⟩
      clear hK K
      try simp only [Act.put, List.setIfInBounds_toArray, List.set_cons_zero, List.set_cons_succ, List.getElem_toArray, List.getElem_cons_zero, List.getElem_cons_succ]
      refine wpAnyH_done (by kernel_rfl) ?_ _
      clear hHeld
      gi_wp2
      exact hfin.out
    case done =>
      rintro D ys W hD hys hS hKD
      simp only [List.length_replicate] at hys
      obtain ⟨R, T, k, h1, h2, h3, h4, h5, h6, h7, h8, h9, h10⟩ := hS
      obtain rfl : k = 0 := by omega
      rw [List.drop_zero] at h7 h8
      obtain ⟨HTR, HSR⟩ := div_ends h2 h3 h4 h5 (by simpa using h7) h8 h9 hb htlb hs hgR (by omega)
      have c1 : W.cell? ⟨w3.heap.size, 0, none⟩ = some (.slice (some ⟨gR, 0, none⟩) ((L N).length + 1) ((L N).length + 1)) := by simp [World.cell?, h9.boxR]
      have c2 : W.cell? ⟨w3.heap.size + 1 + 1, 0, none⟩ = some (.slice (some ⟨w3.heap.size + 1, 0, none⟩) tl tl) := by simp [World.cell?, h9.boxT]
      have hD2 : w3.heap.size + 4 ≤ D := by simpa using hD
      have HK := Lib.hid (And.intro hKD h10)
      clear hD hKD h1 h2 h3 h4 h5 h6 h7 h8 h9 h10 hys
      gi_wp2
      refine wpIn_wide.2 ?_
      go_region_held3 (fun w' => w'.cell? ⟨w3.heap.size, 0, none⟩ = some (.slice (some ⟨gR, 0, none⟩) ((L N).length + 1) ((L N).length + 1)) ∧ w'.cell? ⟨w3.heap.size + 1 + 1, 0, none⟩ = some (.slice (some ⟨w3.heap.size + 1, 0, none⟩) tl tl)) (go_keep)
        (first
          | (go_at_call 71; refine (HTR.out _ ?_).mono ?_; exact rfl; rintro e w' ⟨a1, c1', rfl, o1, rfl⟩)
          | (go_at_call 109; refine (HSR.out _ ?_).mono ?_; exact rfl; rintro e w' ⟨a2, c2', rfl, o2, og⟩; have k1 : w'.cell? ⟨w3.heap.size, 0, none⟩ = some (.slice (some ⟨gR, 0, none⟩) ((L N).length + 1) ((L N).length + 1)) := og.out.cell (by simpa using c1) (by simp; omega); have k2 : w'.cell? ⟨w3.heap.size + 1 + 1, 0, none⟩ = some (.slice (some ⟨w3.heap.size + 1, 0, none⟩) tl tl) := og.out.cell (by simpa using c2) (by simp; omega)))
      obtain ⟨e1, e2⟩ := div_given HK.out.2 (W2 := W.drew) rfl rfl rfl rfl o1.out o2.out og.out (by omega) (show w.heap.size ≤ D by omega) HK.out.1 (by omega)
      have HE := Lib.hid e2
      have HE1 := Lib.hid e1
      clear e1 e2 o1 o2 og k1 k2 c1 c2
      gi_wp2
      refine ⟨by simp, .inl ⟨_, _, rfl, run_takeDeferred (w := w') HE1.out, ?_⟩⟩
      refine ⟨_, results_tmp2 rfl _ _ _, ?_⟩
      exact HE.out
    case stop =>
      rintro D c pre W _ _ h _
      exact h.elim
end Go.Proofs.YtpjeecahaeaajaaGreatDoor

set_option linter.unusedVariables false
set_option linter.unusedSimpArgs false
namespace Go.Proofs.YtpjeecahaeaajaaGreatDoor
open Go.RowKit Rep
theorem GivesDiv.mono {q r : Nat} {w w1 w2 : World} {e : Ending} (h : GivesDiv q r w1 e w2) (hb : Below w.heap.size w w1) : GivesDiv q r w e w2 := by
  obtain ⟨a1, c1, a2, c2, he, o1, o2, hB⟩ := h
  exact ⟨a1, c1, a2, c2, he, o1.mono hb.size, o2.mono hb.size, hb.trans (hB.mono hb.size)⟩
def ShrinkNext (w : World) (N M q r gy oy : Nat) (W' : World) (e : Ending) (w' : World) : Prop :=
  ∃ g c, e = .returned (.slice (some ⟨g, 0, none⟩) (L N).length c) ∧ w'.cell? ⟨gy, oy, none⟩ = some (.int .u32 (M : Int)) ∧
    Hid (Calls Tryz.prog 77 #[.slice (some ⟨g, 0, none⟩) (L N).length c, .int .u32 (M : Int)] w' fun e w2 => ∃ a' c', e = .returned (.tuple #[.slice a' (L q).length c', .int .u32 (r : Int)]) ∧
      w2.cell? ⟨gy, oy, none⟩ = some (.int .u32 (M : Int)) ∧ Hid (Own w.heap.size w2 a' c' (L q) ∧ Below w.heap.size w w2))
theorem shrink_next {w W' : World} {ax : Option Addr} {cx N M q r gy oy : Nat} (hq : N / M = q) (hr : N % M = r) (hx : NumAt w ax cx N) (hb : Below w.heap.size w W') (hy : w.cell? ⟨gy, oy, none⟩ = some (.int .u32 (M : Int))) (hM : 0 < M) (hMl : M < 4294967296) (hNM : M ≤ N) (hl : (L N).length ≤ 2000000) :
    Calls Tryz.prog 76 #[.slice ax (L N).length cx] W' (ShrinkNext w N M q r gy oy W') := by
  subst hq hr
  have hgy := World.block_lt_of_cell? w _ hy
  simp only at hgy
  refine (clone_any ax cx N W' (hx.kept hb) (by omega)).mono ?_
  rintro e w1 ⟨a, c, rfl, ho, hb1⟩
  have hpos : 0 < (L N).length := Nat.pos_of_ne_zero fun e => by rw [L_len_zero] at e; omega
  obtain ⟨g, rfl, hg, hrw⟩ := ho.row hpos
  have hB := hb.trans (hb1.mono hb.size)
  refine ⟨g, c, rfl, (hB.cell hgy).trans hy, Lib.hid ?_⟩
  refine (shrink_row w.heap.size g c M (L N) w1 (L_lim N) (Nat.le_trans hb.size hg) ho.1 hrw (by omega) hM hMl).mono ?_
  rintro e w2 ⟨a', c', rfl, o1, o2, o3⟩
  rw [V_L] at o1 ⊢
  have hB2 : Below w.heap.size w w2 := hB.grown o3 hB.size (fun k hk => by cases hk; exact Nat.le_trans hb.size hg)
  exact ⟨a', c', rfl, (hB2.cell hgy).trans hy, Lib.hid ⟨o1, hB2⟩⟩
theorem one_limb {M : Nat} (h : (L M).length = 1) : L M = [M] ∧ M < 4294967296 := by
  have h1 : M < 4294967296 ^ 1 := (L_len M 1).1 (Nat.le_of_eq h)
  rw [Nat.pow_one] at h1
  exact ⟨rep_small (by omega) h1 (fun e => by rw [e, L_zero] at h; cases h), h1⟩
set_option maxHeartbeats 400000 in
theorem of_own (n : Nat) (hn : n < 18446744073709551616) (w : World) : Calls Tryz.prog 43 #[.int .u64 (n : Int)] w (GivesOwn (L n) w) := by
  have h1 : (n : Int) ≤ 18446744073709551615 := by omega
  have hrow : Row 68 (w.alloc (.cells #[.int .u32 ((n : Int) % 4294967296), .int .u32 ((n : Int) / 4294967296)] 68)) w.heap.size 2 ([n % 4294967296, n / 4294967296].map u32v) := by
    have := Row.new (E := 68) w #[.int .u32 ((n : Int) % 4294967296), .int .u32 ((n : Int) / 4294967296)]
    simpa [u32v] using this
  have hv : V [n % 4294967296, n / 4294967296] = n := by simp only [V, Rep.val]; omega
  have HV := Lib.hid hv
  clear hv
  have HL : Lim [n % 4294967296, n / 4294967296] := Lim.two (Nat.mod_lt _ (by omega)) (by omega)
  go_enter Tryz.func43, Tryz.ntmps43
  go_wp2_with fail
  refine (trim_own w.heap.size (some ⟨w.heap.size, 0, none⟩) 2 2 [n % 4294967296, n / 4294967296] rfl _ HL ⟨by simp [maxLen], .inr ⟨w.heap.size, rfl, Nat.le_refl _, hrow⟩⟩).mono ?_
  rintro e w' ⟨a, c, rfl, ho, _, rfl⟩
  rw [HV.out] at ho ⊢
  go_wp2_with fail
  go_ret
  exact ⟨a, c, rfl, ho, (Below.refl _ _).alloc (Nat.le_refl _) _⟩
set_option maxRecDepth 100000 in
set_option maxHeartbeats 2000000 in
theorem divide_any (ax ay : Option Addr) (cx cy N M : Nat) (w : World) (hx : NumAt w ax cx N) (hy : NumAt w ay cy M) (hM : 0 < M) (hb : (L N).length ≤ 2000000) :
    Calls Tryz.prog 92 #[.slice ax (L N).length cx, .slice ay (L M).length cy] w (GivesDiv (N / M) (N % M) w) := by
  have hpos : 0 < (L M).length := Nat.pos_of_ne_zero fun e => by rw [L_len_zero] at e; omega
  have hyc := hy.2.1
  have hyc2 := hy.2.2
  unfold maxLen at hyc2
  by_cases hlt : N < M
  · have hc : cmpI N M = -1 := by unfold cmpI; rw [if_pos (by omega)]
    have HQ : Hid (N / M = 0 ∧ N % M = N) := Lib.hid ⟨Nat.div_eq_of_lt hlt, Nat.mod_eq_of_lt hlt⟩
    rw [HQ.out.1, HQ.out.2]
    have HC := Lib.hid (fun (w1 : World) (h : Below w.heap.size w w1) => clone_any ax cx N w1 (hx.kept h) (by omega))
    have HM := Lib.hid (compare_num ax ay cx cy N M w hx hy (by omega))
    clear hx hy
    go_enter Tryz.func92, Tryz.ntmps92
    go_wp2_with fail
    refine HM.out.mono ?_
    rintro e w1 ⟨rfl, hb1⟩
    rw [hc]
    have HB := Lib.hid hb1
    clear hb1
    go_wp2_with fail
    refine (HC.out w1 HB.out).mono ?_
    rintro e w2 ⟨a, c, rfl, ho, hb2⟩
    have HE := Lib.hid (And.intro (ho.mono HB.out.size) (HB.out.trans (hb2.mono HB.out.size)))
    clear ho hb2
    go_wp2_with fail
    go_ret2
    exact ⟨none, 0, a, c, rfl, Own.nil _ _, HE.out.1, HE.out.2⟩
  · have hc0 : (decide (cmpI (N : Int) (M : Int) < 0)) = false := by
      unfold cmpI
      rw [if_neg (by omega)]
      split <;> rfl
    have HM := Lib.hid (compare_num ax ay cx cy N M w hx hy (by omega))
    by_cases h1 : (L M).length = 1
    · obtain ⟨hLM, hMl⟩ := one_limb h1
      obtain ⟨gy, oy, rfl, hgy, hcy⟩ := hy.1.open' (by rw [List.length_map]; omega)
      have hck := hcy 0 (u32v M) (by rw [hLM]; rfl)
      rw [Nat.add_zero] at hck
      have hz : (((L M).length : Int) == 1) = true := by rw [h1]; rfl
      have hrm : N % M < 4294967296 := by have := Nat.mod_lt N hM; omega
      obtain ⟨q, hq⟩ : ∃ q, N / M = q := ⟨_, rfl⟩
      obtain ⟨r, hr⟩ : ∃ r, N % M = r := ⟨_, rfl⟩
      have HSN := Lib.hid (fun (W' : World) (h : Below w.heap.size w W') => shrink_next hq hr hx h hck hM hMl (by omega) hb)
      rw [hr] at hrm
      have HOF := Lib.hid (fun (W' : World) => of_own r (by omega) W')
      rw [hq, hr]
      clear hq hr
      have hcell1 : ∀ W' : World, Below w.heap.size w W' → W'.cell? ⟨gy, oy, none⟩ = some (.int .u32 (M : Int)) := fun W' h => (h.cell (p := ⟨gy, oy, none⟩) hgy).trans hck
      have HCL := Lib.hid hcell1
      clear hx hy hcy hLM hcell1 h1
      generalize cmpI (N : Int) (M : Int) = cm at *
      have hcm : ¬ cm < 0 := by simpa using hc0
      go_enter Tryz.func92, Tryz.ntmps92
      go_wp2_with fail
      refine HM.out.mono ?_
      rintro e w1 ⟨rfl, hb1⟩
      have hc1 := HCL.out w1 hb1
      have HB := Lib.hid hb1
      clear hb1 hck
      go_wp2_with fail
      go_region_held3 (fun w' => w'.cell? ⟨gy, oy, none⟩ = some (.int .u32 (M : Int))) (go_keep)
        (first
          | (go_at_call 76; refine (HSN.out _ ?_).mono ?_; exact ⟨HB.out.os, HB.out.tape, HB.out.output, HB.out.size, HB.out.block⟩; rintro e w2 ⟨g, c, rfl, hc2, HK⟩)
          | (go_at_call 77; refine HK.out.mono ?_; rintro e w3 ⟨a3, c3, rfl, hc3, HE⟩))
      go_wp2_with fail
      refine (HOF.out w3).mono ?_
      rintro e w4 ⟨a4, c4, rfl, ho4, hb4⟩
      have HF := Lib.hid (And.intro (HE.out.1.kept hb4) (And.intro (ho4.mono HE.out.2.size) (HE.out.2.trans (hb4.mono HE.out.2.size))))
      clear ho4 hb4 HE
      go_wp2_with fail
      go_ret2
      exact ⟨a3, c3, a4, c4, rfl, HF.out.1, HF.out.2.1, HF.out.2.2⟩
    · have HL := Lib.hid (fun (W' : World) (h : Below w.heap.size w W') => divideLong_any ax ay cx cy N M W' (hx.kept h) (hy.kept h) (by omega) (by omega) hb)
      have hz : (((L M).length : Int) == 1) = false := by simp; omega
      clear hx hy
      generalize cmpI (N : Int) (M : Int) = cm at *
      have hcm : ¬ cm < 0 := by simpa using hc0
      go_enter Tryz.func92, Tryz.ntmps92
      go_wp2_with fail
      refine HM.out.mono ?_
      rintro e w1 ⟨rfl, hb1⟩
      have HB := Lib.hid hb1
      clear hb1
      go_wp2_with fail
      refine (HL.out w1 HB.out).mono ?_
      rintro e w2 hd
      have HD := Lib.hid (hd.mono HB.out)
      clear hd
      obtain ⟨a1, c1, a2, c2, rfl, o1, o2, hB2⟩ := HD.out
      have HE := Lib.hid (And.intro o1 (And.intro o2 hB2))
      clear o1 o2 hB2
      go_wp2_with fail
      go_ret2
      exact ⟨a1, c1, a2, c2, rfl, HE.out.1, HE.out.2.1, HE.out.2.2⟩
def remN (n m : Nat) : Nat := if m = 0 then 0 else n % m
def divO (m : Nat) (o : Bool) (q r : Nat) : Bool := o || decide (m < (L q).length) || decide (m < (L r).length)
def GivesDivOut (b m : Nat) (o : Bool) (q r : Nat) (w : World) (e : Ending) (w' : World) : Prop :=
  ∃ a1 c1 a2 c2, e = .returned (.tuple #[.slice a1 (L (if divO m o q r = true then 0 else q)).length c1, .slice a2 (L (if divO m o q r = true then 0 else r)).length c2]) ∧
    NumAt w' a1 c1 (if divO m o q r = true then 0 else q) ∧ NumAt w' a2 c2 (if divO m o q r = true then 0 else r) ∧ Bench w' b m (divO m o q r) ∧ w.grownBy w' (some b)
theorem GivesDivOut.none {b m q r : Nat} {o : Bool} {w w' : World} (hb : Bench w' b m (divO m o q r)) (h : divO m o q r = true ∨ (q = 0 ∧ r = 0)) (hg : w.grownBy w' (some b)) : GivesDivOut b m o q r w (.returned (.tuple #[.slice none 0 0, .slice none 0 0])) w' := by
  have e1 : (if divO m o q r = true then 0 else q) = 0 := by rcases h with h | ⟨h, _⟩; · rw [if_pos h]
                                                             · rw [h]; split <;> rfl
  have e2 : (if divO m o q r = true then 0 else r) = 0 := by rcases h with h | ⟨_, h⟩; · rw [if_pos h]
                                                             · rw [h]; split <;> rfl
  refine ⟨Option.none, 0, Option.none, 0, ?_, ?_, ?_, hb, hg⟩
  · rw [e1, e2]; rfl
  · rw [e1]; exact NumAt.zero _
  · rw [e2]; exact NumAt.zero _
theorem NumAt.set {w : World} {b m : Nat} {o : Bool} {a : Option Addr} {c n : Nat} (h : NumAt w a c n) (hb : Bench w b m o) (u : Value) : NumAt (w.setCell ⟨b, 1, Option.none⟩ u) a c n :=
  ⟨h.1.grown (row := some b) ⟨rfl, rfl, rfl, by simp [World.setCell], fun k hk hne => by rw [Below.heap_setCell _ _ _ _ (by simpa using hne)]⟩ (hb.apart h.1), h.2⟩
set_option maxRecDepth 100000 in
set_option maxHeartbeats 2000000 in
theorem Div_any (b m : Nat) (ax ay : Option Addr) (xs ys : List Nat) (cx cy : Nat) (w : World) (o : Bool) (h : Bench w b m o) (hx : NumIn w ax cx xs) (hy : NumIn w ay cy ys) (hl : xs.length ≤ 2000000) :
    Calls Tryz.prog 80 #[.pointer (some ⟨b, 0, Option.none⟩), .slice ax xs.length cx, .slice ay ys.length cy] w (GivesDivOut b m o (V xs / V ys) (remN (V xs) (V ys)) w) := by
  cases o with
  | true =>
    refine (Div_over b m ax ay xs ys cx cy w h hx hy).mono ?_
    rintro e w' ⟨rfl, rfl⟩
    exact GivesDivOut.none (by simpa [divO] using h) (.inl (by simp [divO])) (grown_refl _ _)
  | false =>
    have h1 := h.c1
    have HB := Lib.hid h
    have hlx := cutAt_len xs hx.lim
    have hly := cutAt_len ys hy.lim
    clear h
    go_enter Tryz.func80, Tryz.ntmps80
    go_wp2_with fail
    refine (trim_num ax xs cx w hx.lim hx.reads hx.le hx.cap).mono ?_
    rintro e w' ⟨a1, c1, rfl, n1, rfl⟩
    go_wp2_with fail
    refine (trim_num ay ys cy w hy.lim hy.reads hy.le hy.cap).mono ?_
    rintro e w' ⟨a2, c2, rfl, n2, rfl⟩
    clear hx hy
    generalize V xs = N at *
    generalize V ys = M at *
    have HN := Lib.hid n1
    have HM := Lib.hid n2
    clear n1 n2
    by_cases hM : M = 0
    · subst hM
      have hz : (((L 0).length : Int) == 0) = true := rfl
      go_wp2_with fail
      go_ret2
      exact GivesDivOut.none (by simpa [divO, remN, L_zero] using HB.out) (.inr ⟨Nat.div_zero _, by simp [remN]⟩) (grown_refl _ _)
    · have hz : (((L M).length : Int) == 0) = false := cast_beq_no (by rw [Ne, L_len_zero]; exact hM)
      have HD := Lib.hid (divide_any a1 a2 c1 c2 N M w HN.out HM.out (by omega) (by omega))
      rw [show N % M = remN N M from by unfold remN; rw [if_neg hM]] at HD
      generalize N / M = q at *
      generalize remN N M = r at *
      go_wp2_with fail
      refine HD.out.mono ?_
      rintro e w1 ⟨a3, c3, a4, c4, rfl, o1, o2, hB⟩
      have HO := Lib.hid (And.intro o1.num (And.intro o2.num hB))
      have hb1 := HB.out.kept hB
      have HF := Lib.hid (fit_any w1 b m false a3 (L q).length c3 hb1)
      have HB1 := Lib.hid hb1
      clear o1 o2 hB hb1
      go_wp2_with fail
      refine HF.out.mono ?_
      rintro e w2 ⟨rfl, rfl⟩
      rw [Bool.false_or]
      have HB2 := Lib.hid (HB1.out.set (decide (m < (L q).length)))
      have HG2 : Hid (w.grownBy (w1.setCell ⟨b, 1, Option.none⟩ (.bool (decide (m < (L q).length)))) (some b)) := Lib.hid ⟨HO.out.2.2.os, HO.out.2.2.tape, HO.out.2.2.output, by have := HO.out.2.2.size; simpa [World.setCell] using this, fun k hk hne => by
        rw [Below.heap_setCell _ _ _ _ (by simpa using hne)]; exact HO.out.2.2.block k hk⟩
      have HF2 := Lib.hid (fit_any _ b m (decide (m < (L q).length)) a4 (L r).length c4 HB2.out)
      by_cases hmq : m < (L q).length
      · have d1 : decide (m < (L q).length) = true := decide_eq_true hmq
        rw [d1] at HB2 HG2 HF2 ⊢
        rw [if_pos rfl]
        have h3 := HB2.out.c1
        clear d1 h1
        go_wp2_with fail
        refine HF2.out.mono ?_
        rintro e w3 ⟨rfl, rfl⟩
        have h4 := (HB2.out.set true).c1
        rw [Bool.true_or, if_pos rfl]
        have HB3 := Lib.hid (HB2.out.set true)
        have HG3 := Lib.hid (grownBy_set (i := 1) (u := .bool true) HG2.out)
        clear h3
        generalize ((w1.setCell ⟨b, 1, Option.none⟩ (.bool true)).setCell ⟨b, 1, Option.none⟩ (.bool true)) = w4 at *
        go_wp2_with fail
        go_ret2
        exact GivesDivOut.none (by simpa [divO, hmq] using HB3.out) (.inl (by simp [divO, hmq])) HG3.out
      · have d1 : decide (m < (L q).length) = false := decide_eq_false hmq
        rw [d1] at HB2 HG2 HF2 ⊢
        rw [if_neg (by simp)]
        have h3 := HB2.out.c1
        clear d1 h1
        go_wp2_with fail
        refine HF2.out.mono ?_
        rintro e w3 ⟨rfl, rfl⟩
        rw [Bool.false_or]
        have HB3 := Lib.hid (HB2.out.set (decide (m < (L r).length)))
        have HG3 := Lib.hid (grownBy_set (i := 1) (u := .bool (decide (m < (L r).length))) HG2.out)
        have HN3 := Lib.hid (And.intro ((HO.out.1.set HB1.out (.bool false)).set HB2.out (.bool (decide (m < (L r).length)))) ((HO.out.2.1.set HB1.out (.bool false)).set HB2.out (.bool (decide (m < (L r).length)))))
        have h4 := HB3.out.c1
        clear h3
        generalize ((w1.setCell ⟨b, 1, Option.none⟩ (.bool false)).setCell ⟨b, 1, Option.none⟩ (.bool (decide (m < (L r).length)))) = w4 at *
        by_cases hmr : m < (L r).length
        · have d2 : decide (m < (L r).length) = true := decide_eq_true hmr
          rw [d2] at h4 HB3 ⊢
          rw [if_pos rfl]
          clear d2
          go_wp2_with fail
          go_ret2
          exact GivesDivOut.none (by simpa [divO, hmr] using HB3.out) (.inl (by simp [divO, hmr])) HG3.out
        · have d2 : decide (m < (L r).length) = false := decide_eq_false hmr
          rw [d2] at h4 HB3 ⊢
          rw [if_neg (by simp)]
          clear d2
          go_wp2_with fail
          go_ret2
          have hdo : divO m false q r = false := by simp [divO, hmq, hmr]
          exact ⟨a3, c3, a4, c4, by rw [hdo]; rfl, by rw [hdo]; exact HN3.out.1, by rw [hdo]; exact HN3.out.2, by rw [hdo]; exact HB3.out, HG3.out⟩
end Go.Proofs.YtpjeecahaeaajaaGreatDoor
