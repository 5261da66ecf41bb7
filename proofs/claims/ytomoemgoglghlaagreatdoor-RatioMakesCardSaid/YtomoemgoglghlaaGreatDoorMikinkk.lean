/- By program out of: RatCut, RatDec, RatSpk, RatOver, RatSt, RatRules. -/
import Derived.Test.YtomoemgoglghlaaGreatDoorMnckppd
import Derived.Test.YtomoemgoglghlaaGreatDoorMjkhmcj
import Derived.Lib.CutLaws
/-
  strings.Cut at a point.
-/
set_option linter.unusedVariables false
set_option linter.unusedSimpArgs false
namespace Go.Proofs.YtomoemgoglghlaaGreatDoor
open Go.RowKit Rep

/-- Where the first point stands; -1: nowhere. -/
def ptI (l : List UInt8) : Int := Lib.indexByte l 46
theorem ptI_cases (l : List UInt8) : (ptI l = -1 ∧ (46 : UInt8) ∉ l) ∨ ∃ i : Nat, ptI l = i ∧ i < l.length ∧ l[i]? = some 46 ∧ (46 : UInt8) ∉ l.take i := by
  induction l with
  | nil => exact .inl ⟨rfl, by simp⟩
  | cons b l ih =>
    unfold ptI at ih ⊢
    simp only [Lib.indexByte]
    by_cases h : b = 46
    · subst h
      exact .inr ⟨0, rfl, by simp, rfl, by simp⟩
    · have hb : (b == 46) = false := by simpa using h
      rw [hb]
      rcases ih with ⟨e, hn⟩ | ⟨i, e, hl, hi, hn⟩
      · rw [e]; exact .inl ⟨rfl, by simp [hn, Ne.symm h]⟩
      · refine .inr ⟨i + 1, ?_, by simpa using hl, by simpa using hi, ?_⟩
        · rw [e]
          have : ((i : Int) == -1) = false := by simp
          rw [this]
          simp
        · simp [hn, Ne.symm h]

theorem index_dot (s : ByteArray) (w : World) : Calls Tryz.prog 138 #[.string s, .string ⟨#[46]⟩] w (Gives (.int .i64 (ptI s.data.toList)) w) := by
  have HI := Lib.hid (Tryz.stringslite_IndexByte s 46 w)
  cases hb : ([46] == s.toList)
  · go_enter Tryz.func138, Tryz.ntmps138
    go_wp2_with fail
    refine HI.out.mono ?_
    rintro e w1 ⟨rfl, rfl⟩
    go_wp2_with fail
    go_ret
    exact Gives.mk' rfl
  · have h0 : ptI s.data.toList = 0 := by
      have h1 : s.toList = [46] := by simpa using (beq_iff_eq.1 hb).symm
      rw [ByteArray.toList_eq] at h1
      rw [h1]; rfl
    rw [h0]
    clear h0
    go_enter Tryz.func138, Tryz.ntmps138
    go_wp2_with fail
    go_ret
    exact Gives.mk' rfl

/-- What stands ahead of the point, and behind it. -/
def cutA (l : List UInt8) : List UInt8 := if ptI l = -1 then l else l.take (ptI l).toNat
def cutZ (l : List UInt8) : List UInt8 := if ptI l = -1 then [] else l.drop ((ptI l).toNat + 1)
theorem bx_data (s : ByteArray) : strOf s.data.toList = s := by cases s; simp [strOf]

set_option maxRecDepth 100000 in
set_option maxHeartbeats 1000000 in
theorem cut_dot (s : ByteArray) (w : World) (hs : s.size ≤ 1073741824) : Calls Tryz.prog 118 #[.string s, .string ⟨#[46]⟩] w (Draws (.tuple #[.string (strOf (cutA s.data.toList)), .string (strOf (cutZ s.data.toList)), .bool (decide (ptI s.data.toList ≠ -1))]) w) := by
  have HI := Lib.hid (index_dot s w)
  rcases ptI_cases s.data.toList with ⟨e, _⟩ | ⟨i, e, hl, hi, _⟩
  · have e1 : strOf (cutA s.data.toList) = s := by unfold cutA; rw [if_pos e, bx_data]
    have e2 : strOf (cutZ s.data.toList) = ⟨#[]⟩ := by unfold cutZ; rw [if_pos e]; rfl
    rw [e1, e2, e]
    rw [e] at HI
    clear e e1 e2
    go_enter Tryz.func118, Tryz.ntmps118
    go_wp2_with fail
    refine HI.out.mono ?_
    rintro e w1 ⟨rfl, rfl⟩
    go_wp2_with fail
    go_ret3
    exact ⟨rfl, 0, rfl⟩
  · have hl2 : i < s.size := by simpa using hl
    have e1 : strOf (cutA s.data.toList) = s.extract 0 i := by
      unfold cutA; rw [e, if_neg (by omega)]
      apply ByteArray.ext
      refine Array.toList_inj.1 ?_
      simp [strOf, List.extract_eq_take_drop]
    have e2 : strOf (cutZ s.data.toList) = s.extract (i + 1) s.size := by
      unfold cutZ; rw [e, if_neg (by omega)]
      apply ByteArray.ext
      refine Array.toList_inj.1 ?_
      rw [show s.size = s.data.toList.length by simp]
      simp [strOf, List.extract_eq_take_drop]
      rw [List.take_of_length_le (by simp)]
    rw [e1, e2, e]
    rw [e] at HI
    have c1 : (0 : Int) ≤ (i : Int) := by omega
    have c2 : (i : Int) ≤ (s.size : Int) := by omega
    have c3 : (0 : Int) ≤ (i : Int) + 1 := by omega
    have c4 : (i : Int) + 1 ≤ (s.size : Int) := by omega
    have c5 : IntKind.i64.wrap ((i : Int) + 1) = (i : Int) + 1 := IntWalk.i64_in _ (by omega)
    have c6 : ((i : Int) + 1).toNat = i + 1 := by omega
    clear e e1 e2 hl hi
    go_enter Tryz.func118, Tryz.ntmps118
    go_wp2_with fail
    refine HI.out.mono ?_
    rintro e w1 ⟨rfl, rfl⟩
    go_wp2_with fail
    go_quiet (fail)
    go_wp2_with fail
    go_ret3
    exact ⟨by simp, _, rfl⟩
set_option maxRecDepth 100000 in
set_option maxHeartbeats 1000000 in
theorem Cut_any' (s : ByteArray) (w : World) (hs : s.size ≤ 1073741824) : Calls Tryz.prog 99 #[.string s, .string ⟨#[46]⟩] w (Draws (.tuple #[.string (strOf (cutA s.data.toList)), .string (strOf (cutZ s.data.toList)), .bool (decide (ptI s.data.toList ≠ -1))]) w) := by
  have HI := Lib.hid (cut_dot s w hs)
  generalize strOf (cutA s.data.toList) = sa at *
  generalize strOf (cutZ s.data.toList) = sz at *
  generalize decide (ptI s.data.toList ≠ -1) = pt at *
  go_enter Tryz.func99, Tryz.ntmps99
  go_wp2_with fail
  refine HI.out.mono ?_
  rintro e w1 ⟨rfl, nd, rfl⟩
  go_wp2_with fail
  go_ret3
  exact ⟨rfl, nd, rfl⟩
end Go.Proofs.YtomoemgoglghlaaGreatDoor

/-
  ratio.Decimal.
-/
set_option linter.unusedVariables false
set_option linter.unusedSimpArgs false
namespace Go.Proofs.YtomoemgoglghlaaGreatDoor
open Go.RowKit Rep

/-- Do bytes tell a decimal number? -/
def decB (l : List UInt8) : Bool := !(decide (cutA l = []) || (decide (ptI l ≠ -1) && decide (cutZ l = []))) && isDigs (cutA l ++ cutZ l)
/-- The number that they tell. -/
def decQ (l : List UInt8) : Rat := mkQ false (numTxt (cutA l ++ cutZ l)) (10 ^ (cutZ l).length)
/-- What Decimal gives on a bench that isn't over. -/
def GivesDec (b m : Nat) (l : List UInt8) (w : World) (e : Ending) (w' : World) : Prop :=
  (decB l = false ∧ e = .returned (.tuple #[ratV false (.slice none 0 0) (.slice none 0 0), .bool false]) ∧ Below w.heap.size w w') ∨
  (decB l = true ∧ ∃ a1 c1 a2 c2, e = .returned (.tuple #[qV (outQ m (decQ l)) a1 c1 a2 c2, .bool (!ovQ m (decQ l))]) ∧ AtQ w' a1 c1 a2 c2 (outQ m (decQ l)) ∧ Bench w' b m (ovQ m (decQ l)) ∧ w.grownBy w' (some b))

theorem numTxt_zeros (k : Nat) : numTxt (49 :: List.replicate k 48) = 10 ^ k := by
  unfold numTxt
  rw [List.foldl_cons]
  have key : ∀ (k n : Nat), (List.replicate k (48 : UInt8)).foldl (fun n c => 10 * n + (c.toNat - 48)) n = n * 10 ^ k := by
    intro k
    induction k with
    | zero => intro n; simp
    | succ k ih => intro n; rw [List.replicate_succ, List.foldl_cons, ih, Nat.pow_succ]; simp; ac_rfl
  rw [key]
  simp
theorem L_of_dec {n k : Nat} (h : n < 10 ^ k) : (L n).length ≤ k := by rw [L_len]; exact Nat.lt_of_lt_of_le h (Nat.pow_le_pow_left (by omega) k)
theorem L_pow (k : Nat) : (L (10 ^ k)).length ≤ k + 1 := by rw [L_len]; exact Nat.lt_of_le_of_lt (Nat.pow_le_pow_left (by omega) k) (Nat.pow_lt_pow_right (by omega) (by omega))
theorem digs_zeros (k : Nat) (hk : k < 10000) : isDigs (49 :: List.replicate k 48) = true := by
  unfold isDigs
  simp [digB]
  omega

set_option maxRecDepth 100000 in
set_option maxHeartbeats 8000000 in
theorem Decimal_q {b m : Nat} {s : ByteArray} {w : World} (hb : Bench w b m false) (hT : Tab w) (hs : s.size ≤ 9999) :
    Calls Tryz.prog 46 #[.pointer (some ⟨b, 0, none⟩), .string s] w (GivesDec b m s.data.toList w) := by
  obtain ⟨W0, hW0⟩ : ∃ W0, W0 = w.alloc (.cells #[.bool false, .slice none 0 0, .slice none 0 0] 27) := ⟨_, rfl⟩
  have hB0 : Below w.heap.size w W0 := by rw [hW0]; exact (Below.refl _ _).alloc (Nat.le_refl _) _
  have b3 : Blank W0 w.heap.size := by rw [hW0]; exact heap_alloc_new w _
  have hbl := hb.lt
  have HOV := Lib.hid (over_any W0 b m false (hb.kept hB0))
  have HC := Lib.hid ((Cut_any' s W0 (by omega)).mono (R' := fun e w' => e = .returned (.tuple #[.string (strOf (cutA s.data.toList)), .string (strOf (cutZ s.data.toList)), .bool (decide (ptI s.data.toList ≠ -1))]) ∧ Below W0.heap.size W0 w') fun e w' hg => ⟨hg.1, by obtain ⟨_, nd, rfl⟩ := hg; exact Below.drewN' (Below.refl _ _) nd⟩)
  have HW0 := Lib.hid hW0
  have H0 := Lib.hid (And.intro hB0 (And.intro b3 (And.intro hb hT)))
  have hsz : ¬ (10000 : Int) < (s.size : Int) := by omega
  have hsd : decide ((10000 : Int) < (s.size : Int)) = false := decide_eq_false hsz
  have HLA : Hid ((cutA s.data.toList).length + (cutZ s.data.toList).length ≤ s.size) := Lib.hid (by
    unfold cutA cutZ
    split
    · simp
    · simp; omega)
  clear hW0 hB0 b3 hb hT
  generalize s.data.toList = l at *
  obtain ⟨sa, hsa⟩ : ∃ sa, strOf (cutA l) = sa := ⟨_, rfl⟩
  obtain ⟨sz, hsZ⟩ : ∃ sz, strOf (cutZ l) = sz := ⟨_, rfl⟩
  rw [hsa, hsZ] at HC
  have hla : sa.size ≤ 10000 := by rw [← hsa]; show (cutA l).toArray.size ≤ _; simp; have := HLA.out; omega
  have hlz : sz.size ≤ 10000 := by rw [← hsZ]; show (cutZ l).toArray.size ≤ _; simp; have := HLA.out; omega
  have HSA := Lib.hid hsa
  have HSZ := Lib.hid hsZ
  clear hsa hsZ
  generalize hpt : decide (ptI l ≠ -1) = pt at *
  have HPT := Lib.hid hpt
  clear hpt
  have hpl := HLA.out
  have HDA : Hid (sa.toList = cutA l) := Lib.hid (by rw [← HSA.out, ByteArray.toList_eq]; rfl)
  have HDZ : Hid (sz.toList = cutZ l) := Lib.hid (by rw [← HSZ.out, ByteArray.toList_eq]; rfl)
  have HR := Lib.hid (keep3 (show W0.heap[w.heap.size]? = some (.cells #[.bool false, .slice none 0 0, .slice none 0 0] 27 (0, 0)) from H0.out.2.1))
  have HNO : Hid (decB l = false → ∀ W, Below W0.heap.size W0 W → GivesDec b m l w (.returned (.tuple #[ratV false (.slice none 0 0) (.slice none 0 0), .bool false])) (set3 W w.heap.size false (.slice none 0 0) (.slice none 0 0))) := Lib.hid fun h W hW => .inl ⟨h, rfl, set3_below (H0.out.1.trans (hW.mono H0.out.1.size)) (Nat.le_refl _)⟩
  clear hpl
  by_cases hA : cutA l = []
  · have q1 : sa.toList = [] := HDA.out.trans hA
    have q2 : sa.toList.isEmpty = true := by rw [q1]; rfl
    have hno : decB l = false := by unfold decB; rw [decide_eq_true hA]; rfl
    have HN := Lib.hid (HNO.out hno)
    clear hno hA HDA HDZ HNO HPT H0
    go_enter Tryz.func46, Tryz.ntmps46
    go_wp2_with fail
    rw [← HW0.out]
    refine HOV.out.mono ?_
    rintro e w1 ⟨rfl, rfl⟩
    go_wp2_with fail
    refine HC.out.mono ?_
    rintro e w2 ⟨rfl, hb2⟩
    obtain ⟨m0, m1, m2, n0, n1, n2⟩ := HR.out _ hb2
    have HE := Lib.hid (HN.out _ hb2)
    clear hb2 HN HR HC HOV
    go_wp2_with fail
    exact bodyPost_ret (v := .tuple #[ratV false (.slice none 0 0) (.slice none 0 0), .bool false]) (by simp [results, Tryz.results46, go_sem, ratV, m0, m1, m2]) rfl HE.out
  · have hA2 : sa.toList.isEmpty = false := by
      rw [HDA.out]; cases h : cutA l
      · exact absurd h hA
      · rfl
    have hA3 : ¬ sa.toList = [] := by rw [HDA.out]; exact hA
    have HAN := Lib.hid hA
    clear hA
    by_cases hZ : pt = true ∧ cutZ l = []
    · obtain ⟨rfl, hZ⟩ := hZ
      have q1 : sz.toList = [] := HDZ.out.trans hZ
      have q2 : sz.toList.isEmpty = true := by rw [q1]; rfl
      have hno : decB l = false := by unfold decB; rw [HPT.out, decide_eq_true hZ]; simp
      have HN := Lib.hid (HNO.out hno)
      clear hno hZ HDA HDZ HNO HPT H0
      go_enter Tryz.func46, Tryz.ntmps46
      go_wp2_with fail
      rw [← HW0.out]
      refine HOV.out.mono ?_
      rintro e w1 ⟨rfl, rfl⟩
      go_wp2_with fail
      refine HC.out.mono ?_
      rintro e w2 ⟨rfl, hb2⟩
      obtain ⟨m0, m1, m2, n0, n1, n2⟩ := HR.out _ hb2
      have HE := Lib.hid (HN.out _ hb2)
      clear hb2 HN HR HC HOV
      go_wp2_with fail
      exact bodyPost_ret (v := .tuple #[ratV false (.slice none 0 0) (.slice none 0 0), .bool false]) (by simp [results, Tryz.results46, go_sem, ratV, m0, m1, m2]) rfl HE.out
    · have hpz : (pt = false) ∨ (pt = true ∧ sz.toList.isEmpty = false ∧ ¬ sz.toList = []) := by
        cases pt
        · exact .inl rfl
        · have hz : cutZ l ≠ [] := fun c => hZ ⟨rfl, c⟩
          refine .inr ⟨rfl, ?_, by rw [HDZ.out]; exact hz⟩
          rw [HDZ.out]; cases h : cutZ l
          · exact absurd h hz
          · rfl
      have hdec : decB l = isDigs (cutA l ++ cutZ l) := by
        unfold decB
        rw [HPT.out, decide_eq_false HAN.out]
        cases pt
        · rfl
        · rw [decide_eq_false (fun c => hZ ⟨rfl, c⟩)]; rfl
      obtain ⟨st, hst⟩ : ∃ st, sa ++ sz = st := ⟨_, rfl⟩
      have hstl : st.size ≤ 10000 := by rw [← hst, ByteArray.size_append', ← HSA.out, ← HSZ.out]; show (cutA l).toArray.size + (cutZ l).toArray.size ≤ _; simp; have := HLA.out; omega
      have HSD : Hid (st.data.toList = cutA l ++ cutZ l) := Lib.hid (by rw [← hst, ← HSA.out, ← HSZ.out]; simp [strOf, ByteArray.data_append])
      have HP1 : Hid (∀ W t, Bench W t 2147483647 false → Calls Tryz.prog 100 #[.pointer (some ⟨t, 0, none⟩), .string st] W (GivesParse t 2147483647 false (cutA l ++ cutZ l) W)) := Lib.hid fun W t hb => by
        have := Parse_any t 2147483647 st W false hb (by unfold maxLen; omega) (by unfold maxLen; omega)
        rwa [HSD.out] at this
      have HST := Lib.hid hst
      cases hdg : isDigs (cutA l ++ cutZ l)
      · have HN := Lib.hid (HNO.out (hdec.trans hdg))
        have HP : Hid (∀ W t, Bench W t 2147483647 false → Calls Tryz.prog 100 #[.pointer (some ⟨t, 0, none⟩), .string st] W (Gives (.tuple #[.slice none 0 0, .bool false]) W)) := Lib.hid fun W t hb => (HP1.out W t hb).mono fun e W' hg => by
          unfold GivesParse at hg
          rw [hdg] at hg
          exact ⟨hg.1, hg.2.symm⟩
        clear hdec hdg hst HP1 hZ HNO HPT H0 HDA HDZ
        rcases hpz with rfl | ⟨rfl, hz1, hz2⟩
        all_goals
          go_enter Tryz.func46, Tryz.ntmps46
          go_wp2_with fail
          rw [← HW0.out]
          refine HOV.out.mono ?_
          rintro e w1 ⟨rfl, rfl⟩
          go_wp2_with fail
          refine HC.out.mono ?_
          rintro e w2 ⟨rfl, hb2⟩
          obtain ⟨m0, m1, m2, n0, n1, n2⟩ := HR.out _ hb2
          go_wp2_with fail
          refine (unbounded_any w2).mono ?_
          rintro e w3 ⟨rfl, rfl⟩
          have hb3 := hb2.trans ((wayW_below w2).mono hb2.size)
          have HPP := Lib.hid (HP.out _ _ (wayW_bench w2))
          obtain ⟨m0, m1, m2, n0, n1, n2⟩ := HR.out _ hb3
          have HE := Lib.hid (HN.out _ hb3)
          clear hb2 hb3 HN HR HC HOV HP
          go_wp2_with fail
          rw [HST.out]
          refine HPP.out.mono ?_
          rintro e w4 ⟨rfl, rfl⟩
          go_wp2_with fail
          exact bodyPost_ret (v := .tuple #[ratV false (.slice none 0 0) (.slice none 0 0), .bool false]) (by simp [results, Tryz.results46, go_sem, ratV, m0, m1, m2]) rfl HE.out
      · obtain ⟨N, hN⟩ : ∃ N, numTxt (cutA l ++ cutZ l) = N := ⟨_, rfl⟩
        have hNl : (L N).length ≤ 10000 := by
          have h1 := L_of_dec (numTxt_lt (l := cutA l ++ cutZ l) (by have h := hdg; unfold isDigs at h; simp only [Bool.and_eq_true] at h; exact h.2))
          have h2 : (cutA l ++ cutZ l).length ≤ 10000 := by rw [List.length_append]; have := HLA.out; omega
          rw [hN] at h1
          omega
        have hkz : sz.size = (cutZ l).length := by rw [← HSZ.out]; rfl
        have HP : Hid (∀ W t, Bench W t 2147483647 false → Calls Tryz.prog 100 #[.pointer (some ⟨t, 0, none⟩), .string st] W (fun e W' => ∃ a c, e = .returned (.tuple #[.slice a (L N).length c, .bool true]) ∧ NumE W' a (L N).length c N ∧ Below W.heap.size W W')) := Lib.hid fun W t hb => (HP1.out W t hb).mono fun e W' hg => by
          unfold GivesParse at hg
          rw [hdg, hN] at hg
          simp only [Bool.not_false, Bool.and_self, if_true] at hg
          rw [if_pos (by omega)] at hg
          obtain ⟨a, c, he, hn, _, hb⟩ := hg
          exact ⟨a, c, he, NumE.of hn (by omega), hb⟩
        obtain ⟨rp, hrp⟩ : ∃ rp : ByteArray, rp = ⟨(Lib.repeatL [48] sz.size).toArray⟩ := ⟨_, rfl⟩
        have hrps : rp.size ≤ 10000 := by rw [hrp]; show (Lib.repeatL [48] sz.size).toArray.size ≤ _; simp [Lib.repeatL_length]; exact hlz
        have HRP : Hid (∀ W, Calls Tryz.prog 101 #[.string ⟨#[48]⟩, .int .i64 (sz.size : Int)] W (fun e W' => e = .returned (.string rp) ∧ Below W.heap.size W W')) := Lib.hid fun W => by
          rw [hrp]
          exact Tryz.strings_Repeat ⟨#[48]⟩ sz.size W (by omega) (by show 1 * sz.size ≤ _; omega)
        obtain ⟨sd, hsd2⟩ : ∃ sd, (⟨#[49]⟩ : ByteArray) ++ rp = sd := ⟨_, rfl⟩
        have hsdl : sd.data.toList = 49 :: List.replicate (cutZ l).length 48 := by
          have h := Lib.repeatL_replicate (48 : UInt8) 1 sz.size
          rw [← hsd2, hrp]
          simp only [ByteArray.data_append, Array.toList_append]
          rw [show ([48] : List UInt8) = List.replicate 1 48 from rfl, h, Nat.mul_one, hkz]
          rfl
        have hsds : sd.size ≤ 10001 := by rw [← hsd2, ByteArray.size_append']; show 1 + rp.size ≤ _; omega
        have hkl : (cutZ l).length ≤ 9999 := by have := HLA.out; omega
        have hML : (L (10 ^ (cutZ l).length)).length ≤ 10000 := by have := L_pow (cutZ l).length; omega
        have HPS : Hid (∀ W t, Bench W t 2147483647 false → Calls Tryz.prog 100 #[.pointer (some ⟨t, 0, none⟩), .string sd] W (fun e W' => ∃ a c, e = .returned (.tuple #[.slice a (L (10 ^ (cutZ l).length)).length c, .bool true]) ∧ NumE W' a (L (10 ^ (cutZ l).length)).length c (10 ^ (cutZ l).length) ∧ Below W.heap.size W W')) := Lib.hid fun W t hb => (Parse_any t 2147483647 sd W false hb (by unfold maxLen; omega) (by unfold maxLen; omega)).mono fun e W' hg => by
          unfold GivesParse at hg
          rw [hsdl, digs_zeros _ (by omega), numTxt_zeros] at hg
          simp only [Bool.not_false, Bool.and_self, if_true] at hg
          rw [if_pos (by omega)] at hg
          obtain ⟨a, c, he, hn, _, hb⟩ := hg
          exact ⟨a, c, he, NumE.of hn (by omega), hb⟩
        have hpp : 0 < 10 ^ (cutZ l).length := Nat.pow_pos (by omega)
        have hqd : decQ l = mkQ false N (10 ^ (cutZ l).length) := by unfold decQ; rw [hN]
        have hq1 := mkQ_mg false N hpp
        have hq2 := mkQ_den false N hpp
        have hq3 := mkQ_ng false N hpp
        rw [← hqd] at hq1 hq2 hq3
        have HYES := Lib.hid (hdec.trans hdg)
        have HST2 := Lib.hid hsd2
        generalize 10 ^ (cutZ l).length = M at *
        have HM : Hid (∀ W a c a' c', Below W0.heap.size W0 W → NumE W a (L N).length c N → NumE W a' (L M).length c' M → Calls Tryz.prog 42 #[.pointer (some ⟨b, 0, none⟩), .bool false, .slice a (L N).length c, .slice a' (L M).length c'] W (fun e W5 => ∃ (tt : Bool) (x1 : Option Addr) (x2 x3 : Nat) (y1 : Option Addr) (y2 y3 : Nat), e = .returned (.agg #[.bool tt, .slice x1 x2 x3, .slice y1 y2 y3]) ∧ Blank W5 w.heap.size ∧ Bench W5 b m (ovQ m (decQ l)) ∧ W5.heap.size > w.heap.size ∧
            Hid (∀ W6, Below (W5.alloc (.cells #[.bool tt, .slice x1 x2 x3, .slice y1 y2 y3] 27)).heap.size (W5.alloc (.cells #[.bool tt, .slice x1 x2 x3, .slice y1 y2 y3] 27)) W6 →
              GivesDec b m l w (.returned (.tuple #[ratV tt (.slice x1 x2 x3) (.slice y1 y2 y3), .bool (!ovQ m (decQ l))])) (set3 W6 w.heap.size tt (.slice x1 x2 x3) (.slice y1 y2 y3))))) := Lib.hid fun W a c a' c' h h1 h2 => by
          obtain ⟨g1, g2, g3, g4⟩ := H0.out
          have hbw : Below w.heap.size w W := g1.trans (h.mono g1.size)
          refine (Make_any b m false a a' _ c _ c' N M W (g3.kept hbw) h1 h2 (g4.kept hbw) (by omega) (by omega)).mono fun e W5 hg => ?_
          have hq : GivesQ b m (decQ l) W e W5 := hg.q (by rw [hq1]; unfold mkN; rw [if_neg (by omega)]) (by rw [hq2]; unfold mkD; rw [if_neg (by omega)]) (fun hn => by
            rw [hq3]; split <;> rfl)
          obtain ⟨a1, c1, a2, c2, rfl, f1, f3, f4⟩ := hq
          have hbl5 : Blank W5 w.heap.size := (g2.kept h).grown f4 (by omega)
          have hsz5 : w.heap.size < W5.heap.size := (Array.getElem?_eq_some_iff.1 hbl5).1
          refine ⟨_, _, _, _, _, _, _, rfl, hbl5, f3, hsz5, Lib.hid fun W6 h6 => .inr ⟨HYES.out, a1, c1, a2, c2, rfl, ?_, ?_, ?_⟩⟩
          all_goals
            have ha := (Below.refl W5.heap.size W5).alloc (Nat.le_refl _) (.cells #[.bool (ngQ (outQ m (decQ l))), .slice a1 (L (mgQ (outQ m (decQ l)))).length c1, .slice a2 (L (denN (outQ m (decQ l)).den)).length c2] 27)
            have hb6 : Blank W6 w.heap.size := (hbl5.kept ha).kept h6
          · exact ((f1.kept ha).kept h6).set3 hb6.rat _ _ _
          · exact ((f3.kept ha).kept h6).set3 (by omega) _ _ _
          · exact grown_set3 (grownBy_trans_new (grownBy_trans_new (grown_of_below hbw _) f4) (grown_of_below (ha.trans (h6.mono (by simp))) _)) (Nat.le_refl _) _ _ _
        clear hq1 hq2 hq3 hqd hN hdg hdec hpp hML hsdl hkz hrp hst hsd2 HSD HP1 HNO hZ HDA HDZ H0
        rcases hpz with rfl | ⟨rfl, hz1, hz2⟩
        all_goals
          go_enter Tryz.func46, Tryz.ntmps46
          go_wp2_with fail
          rw [← HW0.out]
          refine HOV.out.mono ?_
          rintro e w1 ⟨rfl, rfl⟩
          go_wp2_with fail
          refine HC.out.mono ?_
          rintro e w2 ⟨rfl, hb2⟩
          have HB2 := Lib.hid hb2
          clear hb2 HC HOV
          go_wp2_with fail
          refine (unbounded_any w2).mono ?_
          rintro e w3 ⟨rfl, rfl⟩
          have hb3 := HB2.out.trans ((wayW_below w2).mono HB2.out.size)
          have HPP := Lib.hid (HP.out _ _ (wayW_bench w2))
          have HB3 := Lib.hid (And.intro hb3 (wayW_bench w2))
          clear hb3 HP
          go_wp2_with fail
          rw [HST.out]
          refine HPP.out.mono ?_
          rintro e w4 ⟨a4, c4, rfl, d4, hb4⟩
          have HB4 := Lib.hid (And.intro (HB3.out.1.trans (hb4.mono HB3.out.1.size)) (And.intro d4 (HB3.out.2.kept hb4)))
          clear d4 hb4 HPP HB3 HB2
          go_wp2_with fail
          refine (HRP.out w4).mono ?_
          rintro e w5 ⟨rfl, hb5⟩
          have HB5 := Lib.hid (And.intro (HB4.out.1.trans (hb5.mono HB4.out.1.size)) (And.intro (HB4.out.2.1.kept hb5) (HB4.out.2.2.kept hb5)))
          have HPP := Lib.hid (HPS.out _ _ (HB4.out.2.2.kept hb5))
          clear hb5 HB4 HRP HPS
          go_wp2_with fail
          rw [HST2.out]
          refine HPP.out.mono ?_
          rintro e w6 ⟨a6, c6, rfl, d6, hb6⟩
          have HMM := Lib.hid (HM.out w6 a4 c4 a6 c6 (HB5.out.1.trans (hb6.mono HB5.out.1.size)) (HB5.out.2.1.kept hb6) d6)
          clear d6 hb6 HPP HB5 HM
          go_wp2_with fail
          refine HMM.out.mono ?_
          rintro e w7 ⟨tt, x1, x2, x3, y1, y2, y3, rfl, hbl7, hbe7, hsz7, HE7⟩
          obtain ⟨m0, m1, m2, n0, n1, n2⟩ := hbl7.cells
          have hne7 : w.heap.size ≠ w7.heap.size := by omega
          have hne8 : w7.heap.size ≠ w.heap.size := by omega
          have ha := (Below.refl w7.heap.size w7).alloc (Nat.le_refl _) (.cells #[.bool tt, .slice x1 x2 x3, .slice y1 y2 y3] 27)
          have HOV2 : Hid (∀ W, Below (w7.alloc (.cells #[.bool tt, .slice x1 x2 x3, .slice y1 y2 y3] 27)).heap.size (w7.alloc (.cells #[.bool tt, .slice x1 x2 x3, .slice y1 y2 y3] 27)) W → Calls Tryz.prog 43 #[.pointer (some ⟨b, 0, none⟩)] W (fun e W' => e = .returned (.bool (ovQ m (decQ l))) ∧ Below (w7.alloc (.cells #[.bool tt, .slice x1 x2 x3, .slice y1 y2 y3] 27)).heap.size (w7.alloc (.cells #[.bool tt, .slice x1 x2 x3, .slice y1 y2 y3] 27)) W')) := Lib.hid fun W h => (over_any W b m _ ((hbe7.kept ha).kept h)).mono fun e W' hg => ⟨hg.1, by rw [← hg.2]; exact h⟩
          have HX : Hid (∀ W, Below (w7.alloc (.cells #[.bool tt, .slice x1 x2 x3, .slice y1 y2 y3] 27)).heap.size (w7.alloc (.cells #[.bool tt, .slice x1 x2 x3, .slice y1 y2 y3] 27)) W → (W.cell? ⟨w7.heap.size, 0, none⟩ = some (.bool tt) ∧ W.cell? ⟨w7.heap.size, 1, none⟩ = some (.slice x1 x2 x3) ∧ W.cell? ⟨w7.heap.size, 2, none⟩ = some (.slice y1 y2 y3))) := Lib.hid fun W h => by
            obtain ⟨f0, f1, f2, _⟩ := keep3 (heap_alloc_new w7 (.cells #[.bool tt, .slice x1 x2 x3, .slice y1 y2 y3] 27)) W h
            exact ⟨f0, f1, f2⟩
          have HBL : Hid (∀ W, Below (w7.alloc (.cells #[.bool tt, .slice x1 x2 x3, .slice y1 y2 y3] 27)).heap.size (w7.alloc (.cells #[.bool tt, .slice x1 x2 x3, .slice y1 y2 y3] 27)) W → Blank W w.heap.size) := Lib.hid fun W h => (hbl7.kept ha).kept h
          clear hbl7 hbe7 ha HMM
          generalize ovQ m (decQ l) = ov at *
          go_wp2_with fail
          go_region_held3 (fun w' => w'.cell? ⟨w7.heap.size, 0, none⟩ = some (.bool tt) ∧ w'.cell? ⟨w7.heap.size, 1, none⟩ = some (.slice x1 x2 x3) ∧ w'.cell? ⟨w7.heap.size, 2, none⟩ = some (.slice y1 y2 y3)) (first | exact HX.out _ hb8 | go_keep)
              (first
                | (go_at_call 43; (with_reducible refine (HOV2.out _ (below_drew _)).mono ?_); rintro e w8 ⟨rfl, hb8⟩; have HE := Lib.hid (HE7.out _ hb8); obtain ⟨m0, m1, m2, n0, n1, n2⟩ := (HBL.out _ hb8).cells))
          all_goals
            go_wp2_with fail
            exact bodyPost_ret (v := .tuple #[ratV tt (.slice x1 x2 x3) (.slice y1 y2 y3), .bool (!ov)]) (by simp [results, Tryz.results46, go_sem, ratV, m0, m1, m2]) rfl HE.out
end Go.Proofs.YtomoemgoglghlaaGreatDoor

/-
  The ratio laws' example.
-/
set_option linter.unusedVariables false
set_option linter.unusedSimpArgs false
namespace Go.Proofs.YtomoemgoglghlaaGreatDoor
open Go.RowKit Rep

def exL : List UInt8 := [49, 50, 46, 53, 48]
def exQ : Rat := mkQ false 25 2
theorem exQ_parts : ngQ exQ = false ∧ mgQ exQ = 25 ∧ exQ.den = 2 := by
  obtain ⟨a, b⟩ := mkQ_cop false (n := 25) (d := 2) (by omega) (by decide)
  exact ⟨by unfold exQ; rw [mkQ_ng false 25 (by omega)]; rfl, a, b⟩
theorem ex_dec : decB exL = true ∧ decQ exL = exQ := by
  refine ⟨by decide, ?_⟩
  have h1 : numTxt (cutA exL ++ cutZ exL) = 1250 := by decide
  have h2 : (cutZ exL).length = 2 := by decide
  unfold decQ exQ
  rw [h1, h2]
  exact mkQ_cross false (by omega) (by omega) (by omega)
theorem ex_L : (L 25).length = 1 ∧ (L 2).length = 1 := ⟨by decide, by decide⟩
theorem ex_ov : ovQ 2 exQ = false ∧ outQ 2 exQ = exQ := by
  obtain ⟨a, b, c⟩ := exQ_parts
  have h : ovQ 2 exQ = false := by
    unfold ovQ rO
    rw [b, c]
    decide
  exact ⟨h, by unfold outQ; rw [h]; rfl⟩
theorem ex_text : textQ exQ = ⟨#[50, 53, 47, 50]⟩ := by
  obtain ⟨a, b, c⟩ := exQ_parts
  unfold textQ
  rw [a, b, c]
  decide +kernel
theorem ex_term : termQ (-exQ) = ⟨#[40, 45, 32, 40, 47, 32, 50, 53, 46, 48, 32, 50, 46, 48, 41, 41]⟩ := by
  obtain ⟨a, b, c⟩ := exQ_parts
  have h1 : ngQ (-exQ) = true := by rw [neg_ng, b, a]; rfl
  unfold termQ
  rw [h1, neg_mg, neg_den, b, c]
  decide +kernel
theorem ex_sz : szQ exQ ≤ 10000 ∧ szQ (-exQ) ≤ 10000 := by
  obtain ⟨a, b, c⟩ := exQ_parts
  have h : szQ exQ = 1 := by unfold szQ; rw [b, c]; decide
  have h2 : szQ (-exQ) = szQ exQ := by unfold szQ; rw [neg_mg, neg_den]
  omega

/-- A call tells that it holds. -/
def Says (w : World) (e : Ending) (w' : World) : Prop := e = .returned (.bool true) ∧ Below w.heap.size w w'

set_option maxRecDepth 100000 in
set_option maxHeartbeats 4000000 in
theorem speaks02 {w : World} (hT : Tab w) : Calls Tryz.prog 10 #[] w (Says w) := by
  have hb0 : Below w.heap.size w (w.alloc (.cells #[.int .i64 2, .bool false] 116)) := (Below.refl _ _).alloc (Nat.le_refl _) _
  have HD : Hid (Calls Tryz.prog 46 #[.pointer (some ⟨w.heap.size, 0, none⟩), .string ⟨#[49, 50, 46, 53, 48]⟩] (w.alloc (.cells #[.int .i64 2, .bool false] 116)) (fun e W => ∃ (a1 : Option Addr) (l1 c1 : Nat) (a2 : Option Addr) (l2 c2 : Nat), e = .returned (.tuple #[.agg #[.bool false, .slice a1 l1 c1, .slice a2 l2 c2], .bool true]) ∧ Hid (Below w.heap.size w W ∧
      ∀ W', Below W.heap.size W W' → (Calls Tryz.prog 34 #[.agg #[.bool false, .slice a1 l1 c1, .slice a2 l2 c2]] W' (GivesTx ⟨#[50, 53, 47, 50]⟩ W')) ∧
        (Calls Tryz.prog 32 #[.agg #[.bool false, .slice a1 l1 c1, .slice a2 l2 c2]] W' (fun e W2 => ∃ (t : Bool) (a3 : Option Addr) (l3 c3 : Nat) (a4 : Option Addr) (l4 c4 : Nat), e = .returned (.agg #[.bool t, .slice a3 l3 c3, .slice a4 l4 c4]) ∧ Hid (Below W'.heap.size W' W2 ∧
          Calls Tryz.prog 36 #[.agg #[.bool t, .slice a3 l3 c3, .slice a4 l4 c4]] W2 (GivesTx ⟨#[40, 45, 32, 40, 47, 32, 50, 53, 46, 48, 32, 50, 46, 48, 41, 41]⟩ W2))))))) := Lib.hid (by
    have hbe : Bench (w.alloc (.cells #[.int .i64 2, .bool false] 116)) w.heap.size 2 false := heap_alloc_new w _
    refine (Decimal_q (s := ⟨#[49, 50, 46, 53, 48]⟩) hbe (hT.kept hb0) (by decide)).mono ?_
    intro e W hg
    have hl : (⟨#[49, 50, 46, 53, 48]⟩ : ByteArray).data.toList = exL := rfl
    rw [hl] at hg
    rcases hg with ⟨h1, _⟩ | ⟨_, a1, c1, a2, c2, rfl, hat, hb1, hg1⟩
    · rw [ex_dec.1] at h1; cases h1
    · rw [ex_dec.2, ex_ov.2] at hat ⊢
      rw [ex_ov.1]
      have hbw : Below w.heap.size w W := hb0.grown hg1 (by simp) (fun k hk => by cases hk; exact Nat.le_refl _)
      refine ⟨a1, _, c1, a2, _, c2, by rw [qV, exQ_parts.1]; rfl, Lib.hid ⟨hbw, fun W' h => ?_⟩⟩
      have hat' := hat.kept h
      have ht := Text_q hat' ex_sz.1
      have hn := NegP_q hat' ex_sz.1
      rw [ex_text] at ht
      unfold qV ratV at ht hn
      rw [exQ_parts.1] at ht hn
      refine ⟨ht, hn.mono ?_⟩
      rintro e W2 ⟨a3, c3, a4, c4, rfl, hat2, hb2⟩
      have hm := Term_q hat2 ex_sz.2
      rw [ex_term] at hm
      exact ⟨_, a3, _, c3, a4, _, c4, rfl, Lib.hid ⟨hb2, hm⟩⟩)
  clear hb0 hT
  go_enter Tryz.func10, Tryz.ntmps10
  go_wp2_with fail
  refine (new_high 2 w (by omega) (by unfold maxLen; omega)).mono ?_
  rintro e w' ⟨rfl, rfl⟩
  go_wp2_with fail
  refine HD.out.mono ?_
  rintro e w2 ⟨a1, l1, c1, a2, l2, c2, rfl, HE⟩
  have ha := (Below.refl w2.heap.size w2).alloc (Nat.le_refl _) (.cells #[.bool false, .slice a1 l1 c1, .slice a2 l2 c2] 27)
  have HT := Lib.hid (HE.out.2 _ ha).1
  have HK := Lib.hid (keep3 (heap_alloc_new w2 (.cells #[.bool false, .slice a1 l1 c1, .slice a2 l2 c2] 27)))
  have HA := Lib.hid ha
  clear ha HD
  go_wp2_with fail
  refine HT.out.mono ?_
  rintro e w3 ⟨rfl, hb3⟩
  obtain ⟨m0, m1, m2, n0, n1, n2⟩ := HK.out _ hb3
  have hb23 := HA.out.trans (hb3.mono HA.out.size)
  have HN := Lib.hid (HE.out.2 _ hb23).2
  have HB := Lib.hid (HE.out.1.trans (hb23.mono HE.out.1.size))
  clear hb3 hb23 HT HK HA HE
  go_wp2_with fail
  refine HN.out.mono ?_
  rintro e w4 ⟨t, a3, l3, c3, a4, l4, c4, rfl, HE⟩
  have HM := Lib.hid HE.out.2
  have HB4 := Lib.hid (HB.out.trans (HE.out.1.mono HB.out.size))
  clear HN HB HE
  go_wp2_with fail
  refine HM.out.mono ?_
  rintro e w5 ⟨rfl, hb5⟩
  have HB5 := Lib.hid (HB4.out.trans (hb5.mono HB4.out.size))
  clear hb5 HM HB4
  go_wp2_with fail
  go_ret
  exact ⟨rfl, HB5.out⟩
end Go.Proofs.YtomoemgoglghlaaGreatDoor

/-
  RatioOver: the law's walk.
-/
set_option linter.unusedVariables false
set_option linter.unusedSimpArgs false
namespace Go.Proofs.YtomoemgoglghlaaGreatDoor
open Go.RowKit Rep

set_option maxRecDepth 100000 in
set_option maxHeartbeats 1000000 in
theorem DecQ_over {w : World} {b m : Nat} (hb : Bench w b m true) (s : ByteArray) :
    Calls Tryz.prog 46 #[.pointer (some ⟨b, 0, none⟩), .string s] w fun e w' => e = .returned (.tuple #[.agg #[.bool false, .slice none 0 0, .slice none 0 0], .bool false]) ∧ Below w.heap.size w w' := by
  obtain ⟨W0, hW0⟩ : ∃ W0, W0 = w.alloc (.cells #[.bool false, .slice none 0 0, .slice none 0 0] 27) := ⟨_, rfl⟩
  have hB0 : Below w.heap.size w W0 := by rw [hW0]; exact (Below.refl _ _).alloc (Nat.le_refl _) _
  have b3 : Blank W0 w.heap.size := by rw [hW0]; exact heap_alloc_new w _
  have HOV := Lib.hid (over_any W0 b m true (hb.kept hB0))
  have HW0 := Lib.hid hW0
  have HE := Lib.hid (set3_below (r := w.heap.size) (s := false) (v1 := .slice none 0 0) (v2 := .slice none 0 0) hB0 (Nat.le_refl _))
  obtain ⟨m0, m1, m2, n0, n1, n2⟩ := b3.cells
  clear hW0 hB0 b3 hb
  go_enter Tryz.func46, Tryz.ntmps46
  go_wp2_with fail
  rw [← HW0.out]
  refine HOV.out.mono ?_
  rintro e w1 ⟨rfl, rfl⟩
  go_wp2_with fail
  exact bodyPost_ret (v := .tuple #[.agg #[.bool false, .slice none 0 0, .slice none 0 0], .bool false]) (by simp [results, Tryz.results46, go_sem, m0, m1, m2]) rfl ⟨rfl, HE.out⟩

/-- A ratio that a law is handed. -/
structure HandR (w : World) (a1 : Option Addr) (c1 : Nat) (xs : List Nat) (a2 : Option Addr) (c2 : Nat) (ds : List Nat) : Prop where
  num : Handed w a1 c1 xs
  den : Handed w a2 c2 ds
theorem HandR.kept {w w' : World} {a1 : Option Addr} {c1 : Nat} {xs : List Nat} {a2 : Option Addr} {c2 : Nat} {ds : List Nat} (h : HandR w a1 c1 xs a2 c2 ds) (hb : Below w.heap.size w w') : HandR w' a1 c1 xs a2 c2 ds := ⟨h.num.kept hb, h.den.kept hb⟩
/-- Ratios that aren't great, as raw rows. -/
theorem great_two {s t : Bool} {a1 a2 b1 b2 : Option Addr} {c1 c2 e1 e2 l1 l2 k1 k2 : Nat} (h : greatB [(s, (a1, l1, c1), (a2, l2, c2)), (t, (b1, k1, e1), (b2, k2, e2))] = false) : l1 ≤ 6 ∧ l2 ≤ 6 ∧ k1 ≤ 6 ∧ k2 ≤ 6 := by
  simp [greatB] at h
  omega
theorem RightR_any' {w : World} {s : Bool} {a1 a2 : Option Addr} {c1 c2 : Nat} {xs ds : List Nat} (h : HandR w a1 c1 xs a2 c2 ds) (lx : xs.length ≤ 6) (ld : ds.length ≤ 6) :
    Calls Tryz.prog 12 #[.agg #[.bool s, .slice a1 xs.length c1, .slice a2 ds.length c2]] w (GivesB (rightB s xs ds) w) :=
  RightR_any (h.num.inn (by omega)) (h.den.inn (by omega)) (by omega) (by omega)

/-- A bench that the law makes over. -/
theorem mul5 (w : World) : Calls Tryz.prog 51 #[.pointer (some ⟨w.heap.size, 0, none⟩), .slice (some ⟨w.heap.size + 1, 0, none⟩) 2 2, .slice (some ⟨w.heap.size + 1 + 1, 0, none⟩) 1 1]
    (((w.alloc (.cells #[.int .i64 1, .bool false] 116)).alloc (.cells #[.int .u32 0, .int .u32 1] 66)).alloc (.cells #[.int .u32 5] 66))
    fun e w' => (∃ a l c, e = .returned (.slice a l c)) ∧ Bench w' w.heap.size 1 true ∧ Below w.heap.size w w' := by
  have hb : Bench (((w.alloc (.cells #[.int .i64 1, .bool false] 116)).alloc (.cells #[.int .u32 0, .int .u32 1] 66)).alloc (.cells #[.int .u32 5] 66)) w.heap.size 1 false := by
    have h := (GivesBench.bench (m := 1) (w := w))
    exact (h.of_block (Below.heap_alloc _ _ _ (by simp))).of_block (Below.heap_alloc _ _ _ (by simp; omega))
  have hx := limbs2 (((w.alloc (.cells #[.int .i64 1, .bool false] 116)))) 0 1 (by omega) (by omega)
  have hx2 := hx.kept ((Below.refl _ _).alloc (Nat.le_refl _) (.cells #[.int .u32 5] 66))
  have hy := limbs1 ((w.alloc (.cells #[.int .i64 1, .bool false] 116)).alloc (.cells #[.int .u32 0, .int .u32 1] 66)) 5 (by omega)
  simp only [World.size_alloc] at hx2 hy
  refine (Mul_any w.heap.size 1 _ _ [0, 1] [5] 2 1 _ false hb (by unfold maxLen; omega) hx2 hy).mono ?_
  rintro e w1 ⟨a, c, rfl, hat, hb1, hg⟩
  have hov : outO 1 false (V [0, 1] * V [5]) = true := by
    have : ¬ (L (V [0, 1] * V [5])).length ≤ 1 := fun h => by
      have := (L_len _ _).1 h
      simp [V, Rep.val] at this
    simp only [outO, Bool.false_or]
    exact decide_eq_true (by omega)
  rw [hov] at hb1
  exact ⟨⟨a, _, c, rfl⟩, hb1, ((((Below.refl _ w).alloc (Nat.le_refl _) _).alloc (by simp) _).alloc (by simp; omega) _).grown hg (by simp; omega) (fun k hk => by cases hk; exact Nat.le_refl _)⟩
/-- 0, as the law holds it against others. -/
theorem same_zero (w : World) : Calls Tryz.prog 31 #[.agg #[.bool false, .slice none 0 0, .slice none 0 0], .agg #[.bool false, .slice none 0 0, .slice none 0 0]] w (GivesB true w) := by
  have := SameR_any false false none none none none 0 0 0 0 [] [] [] [] w (.inl rfl) (.inl rfl) (.inl rfl) (.inl rfl) (by simp) (by simp)
  simpa [ratV] using this
def zeroR : RawR := (false, (none, 0, 0), (none, 0, 0))
theorem Rats.five {W : World} {g : Nat} {ty : TypeId} (h : W.heap[g]? = some (.cells #[.bool false, .slice none 0 0, .slice none 0 0, .bool false, .slice none 0 0, .slice none 0 0, .bool false, .slice none 0 0, .slice none 0 0, .bool false, .slice none 0 0, .slice none 0 0, .bool false, .slice none 0 0, .slice none 0 0] ty (0, 0))) (k : Nat) (hk : k < 5) :
    W.cell? ⟨g, k * 3, none⟩ = some (.bool false) ∧ W.cell? ⟨g, k * 3 + 1, none⟩ = some (.slice none 0 0) ∧ W.cell? ⟨g, k * 3 + 2, none⟩ = some (.slice none 0 0) := by
  rcases k with _ | _ | _ | _ | _ | k
  · simp [World.cell?, h]
  · simp [World.cell?, h]
  · simp [World.cell?, h]
  · simp [World.cell?, h]
  · simp [World.cell?, h]
  · omega

set_option maxRecDepth 100000 in
set_option maxHeartbeats 8000000 in
theorem overR_walk {s t : Bool} {a1 a2 b1 b2 : Option Addr} {c1 c2 e1 e2 : Nat} {xs ds ys es : List Nat} {str : ByteArray} {w : World} (hx : HandR w a1 c1 xs a2 c2 ds) (hy : HandR w b1 e1 ys b2 e2 es) (hT : Tab w) (hs : str.size ≤ maxLen) :
    Calls Tryz.prog 7 #[ratV s (.slice a1 xs.length c1) (.slice a2 ds.length c2), ratV t (.slice b1 ys.length e1) (.slice b2 es.length e2), .string str] w (Holds w) := by
  obtain ⟨W0, hW0, hB0, k1, k2, hsz⟩ := boxes2 w #[.bool s, .slice a1 xs.length c1, .slice a2 ds.length c2] #[.bool t, .slice b1 ys.length e1, .slice b2 es.length e2] 27 27
  have HSP := Lib.hid (speaks02 (hT.kept hB0))
  have HK := Lib.hid (keep6 k1 k2)
  have HW0 := Lib.hid hW0
  have HB := Lib.hid hB0
  have HX := Lib.hid (hx.kept hB0)
  have HY := Lib.hid (hy.kept hB0)
  obtain ⟨p0, p1, p2, _⟩ := cells3 k1
  obtain ⟨p3, p4, p5, _⟩ := cells3 k2
  clear hW0 hB0 k1 k2 hx hy hT hsz
  unfold ratV
  go_enter Tryz.func7, Tryz.ntmps7
  go_wp2_with fail
  rw [← HW0.out]
  refine HSP.out.mono ?_
  rintro e w1 ⟨rfl, hb1⟩
  obtain ⟨p0, p1, p2, p3, p4, p5⟩ := HK.out _ hb1
  have HB1 := Lib.hid hb1
  clear hb1 HSP
  go_wp2_with fail
  have HBL1 := Lib.hid (HB.out.trans (HB1.out.mono HB.out.size))
  have hal := (Below.refl w1.heap.size w1).alloc (Nat.le_refl _) (.cells #[.bool s, .slice a1 xs.length c1, .slice a2 ds.length c2, .bool t, .slice b1 ys.length e1, .slice b2 es.length e2] 27)
  have HAL := Lib.hid hal
  have HG : Hid (Calls Tryz.prog 11 #[.slice (some ⟨w1.heap.size, 0, none⟩) 2 2] (w1.alloc (.cells #[.bool s, .slice a1 xs.length c1, .slice a2 ds.length c2, .bool t, .slice b1 ys.length e1, .slice b2 es.length e2] 27)) (GivesB (greatB [(s, (a1, xs.length, c1), (a2, ds.length, c2)), (t, (b1, ys.length, e1), (b2, es.length, e2))]) (w1.alloc (.cells #[.bool s, .slice a1 xs.length c1, .slice a2 ds.length c2, .bool t, .slice b1 ys.length e1, .slice b2 es.length e2] 27)))) :=
    Lib.hid (Great_any w1.heap.size 2 [(s, (a1, xs.length, c1), (a2, ds.length, c2)), (t, (b1, ys.length, e1), (b2, es.length, e2))] _ (Rats.two (heap_alloc_new w1 _)) (by simp) (by simp))
  clear hal
  cases hgr : greatB [(s, (a1, xs.length, c1), (a2, ds.length, c2)), (t, (b1, ys.length, e1), (b2, es.length, e2))]
  case true =>
    rw [hgr] at HG
    clear hgr
    refine HG.out.mono ?_
    rintro e w2 ⟨rfl, hb2⟩
    have HE := Lib.hid (HBL1.out.trans ((HAL.out.trans (hb2.mono HAL.out.size)).mono HBL1.out.size))
    clear hb2 HG HAL
    go_wp2_with fail
    go_ret
    exact ⟨rfl, HE.out⟩
  case false =>
  rw [hgr] at HG
  obtain ⟨l1, l2, l3, l4⟩ := great_two hgr
  clear hgr
  refine HG.out.mono ?_
  rintro e w2 ⟨rfl, hb2⟩
  have hb02 := HB1.out.trans ((HAL.out.trans (hb2.mono HAL.out.size)).mono HB1.out.size)
  have HRX := Lib.hid (RightR_any' (s := s) (HX.out.kept hb02) l1 l2)
  have HRY : Hid (∀ W, Below W0.heap.size W0 W → Calls Tryz.prog 12 #[.agg #[.bool t, .slice b1 ys.length e1, .slice b2 es.length e2]] W (GivesB (rightB t ys es) W)) := Lib.hid fun W h => RightR_any' (HY.out.kept h) l3 l4
  obtain ⟨p0, p1, p2, p3, p4, p5⟩ := HK.out _ hb02
  have HB2 := Lib.hid hb02
  clear hb2 hb02 HG HAL HB1 HBL1
  go_wp2_with fail
  cases hrx : rightB s xs ds
  case false =>
    rw [hrx] at HRX
    clear hrx
    refine HRX.out.mono ?_
    rintro e w3 ⟨rfl, hb3⟩
    have hb03 := HB2.out.trans (hb3.mono HB2.out.size)
    have HE := Lib.hid (HB.out.trans (hb03.mono HB.out.size))
    clear hb3 hb03 HRX HRY
    go_wp2_with fail
    go_ret
    exact ⟨rfl, HE.out⟩
  case true =>
  rw [hrx] at HRX
  clear hrx
  refine HRX.out.mono ?_
  rintro e w3 ⟨rfl, hb3⟩
  have hb03 := HB2.out.trans (hb3.mono HB2.out.size)
  have HRY2 := Lib.hid (HRY.out _ hb03)
  obtain ⟨p0, p1, p2, p3, p4, p5⟩ := HK.out _ hb03
  have HB3 := Lib.hid hb03
  clear hb3 hb03 HRX HRY HB2
  go_wp2_with fail
  cases hry : rightB t ys es
  case false =>
    rw [hry] at HRY2
    clear hry
    refine HRY2.out.mono ?_
    rintro e w4 ⟨rfl, hb4⟩
    have hb04 := HB3.out.trans (hb4.mono HB3.out.size)
    have HE := Lib.hid (HB.out.trans (hb04.mono HB.out.size))
    clear hb4 hb04 HRY2
    go_wp2_with fail
    go_ret
    exact ⟨rfl, HE.out⟩
  case true =>
  rw [hry] at HRY2
  clear hry
  refine HRY2.out.mono ?_
  rintro e w4 ⟨rfl, hb4⟩
  have hb04 := HB3.out.trans (hb4.mono HB3.out.size)
  obtain ⟨p0, p1, p2, p3, p4, p5⟩ := HK.out _ hb04
  have HB4 := Lib.hid hb04
  clear hb4 hb04 HRY2 HB3
  by_cases hlong : 60 < str.size
  · have q1 : decide ((60 : Int) < (str.size : Int)) = true := decide_eq_true (by omega)
    have q2 : (60 : Int) < (str.size : Int) := by omega
    have HE := Lib.hid (HB.out.trans (HB4.out.mono HB.out.size))
    clear hlong HB4
    go_wp2_with fail
    go_ret
    exact ⟨rfl, HE.out⟩
  · have q1 : decide ((60 : Int) < (str.size : Int)) = false := decide_eq_false (by omega)
    have q2 : ¬ (60 : Int) < (str.size : Int) := by omega
    clear hlong
    go_wp2_with fail
    refine (new_high 1 w4 (by omega) (by unfold maxLen; omega)).mono ?_
    rintro e w' ⟨rfl, rfl⟩
    go_wp2_with fail
    refine (mul5 w4).mono ?_
    rintro e w5 ⟨⟨a5, l5, c5, rfl⟩, hbe, hb5⟩
    have hlw := World.block_lt_of_cell? w4 _ p0
    have hlw2 := World.block_lt_of_cell? w4 _ p3
    dsimp only at hlw hlw2
    have hb05 := HB4.out.trans (hb5.mono HB4.out.size)
    have HBE := Lib.hid hbe
    have HB5 := Lib.hid hb05
    have HD := Lib.hid (DecQ_over hbe str)
    have hb4lt : w4.heap.size < w5.heap.size := hbe.lt
    clear hbe hb5 hb05
    go_wp2_with fail
    refine HD.out.mono ?_
    rintro e w6 ⟨rfl, hb6⟩
    have ha6 := (Below.refl w6.heap.size w6).alloc (Nat.le_refl _) (.cells #[.bool false, .slice none 0 0, .slice none 0 0] 27)
    have h57 := hb6.trans (ha6.mono hb6.size)
    have h07 := HB5.out.trans (h57.mono HB5.out.size)
    have hw56 := hb6.size
    obtain ⟨p0, p1, p2, p3, p4, p5⟩ := HK.out _ h07
    have HB7 := Lib.hid h07
    have HBE7 := Lib.hid (HBE.out.kept h57)
    have HKK : Hid (∀ W, Below (w6.alloc (.cells #[.bool false, .slice none 0 0, .slice none 0 0] 27)).heap.size (w6.alloc (.cells #[.bool false, .slice none 0 0, .slice none 0 0] 27)) W → (W.cell? ⟨w.heap.size, 0, none⟩ = some (.bool s) ∧ W.cell? ⟨w.heap.size, 1, none⟩ = some (.slice a1 xs.length c1) ∧ W.cell? ⟨w.heap.size, 2, none⟩ = some (.slice a2 ds.length c2) ∧ W.cell? ⟨w.heap.size + 1, 0, none⟩ = some (.bool t) ∧ W.cell? ⟨w.heap.size + 1, 1, none⟩ = some (.slice b1 ys.length e1) ∧ W.cell? ⟨w.heap.size + 1, 2, none⟩ = some (.slice b2 es.length e2) ∧
        W.cell? ⟨w6.heap.size, 0, none⟩ = some (.bool false) ∧ W.cell? ⟨w6.heap.size, 1, none⟩ = some (.slice none 0 0) ∧ W.cell? ⟨w6.heap.size, 2, none⟩ = some (.slice none 0 0))) := Lib.hid fun W h => by
      obtain ⟨g0, g1, g2, g3, g4, g5⟩ := HK.out _ (HB7.out.trans (h.mono HB7.out.size))
      obtain ⟨f0, f1, f2, _⟩ := keep3 (heap_alloc_new w6 _) W h
      exact ⟨g0, g1, g2, g3, g4, g5, f0, f1, f2⟩
    have HYN : Hid (∀ W, Below W0.heap.size W0 W → NumE W b1 ys.length e1 (V ys) ∧ NumE W b2 es.length e2 (V es)) := Lib.hid fun W h => ⟨.inn ((HY.out.kept h).num.inn (by omega)), .inn ((HY.out.kept h).den.inn (by omega))⟩
    clear ha6 h57 h07 hb6 HD HBE HB5
    have hn1 : w6.heap.size ≠ w.heap.size := by omega
    have hn2 : w6.heap.size ≠ w.heap.size + 1 := by omega
    have HA : Hid (∀ W, Below (w6.alloc (.cells #[.bool false, .slice none 0 0, .slice none 0 0] 27)).heap.size (w6.alloc (.cells #[.bool false, .slice none 0 0, .slice none 0 0] 27)) W → ∀ f, (f = 16 ∨ f = 19 ∨ f = 22 ∨ f = 25) → Calls Tryz.prog f #[.pointer (some ⟨w4.heap.size, 0, none⟩), .agg #[.bool s, .slice a1 xs.length c1, .slice a2 ds.length c2], .agg #[.bool t, .slice b1 ys.length e1, .slice b2 es.length e2]] W (fun e W' => e = .returned (.agg #[.bool false, .slice none 0 0, .slice none 0 0]) ∧ Below (w6.alloc (.cells #[.bool false, .slice none 0 0, .slice none 0 0] 27)).heap.size (w6.alloc (.cells #[.bool false, .slice none 0 0, .slice none 0 0] 27)) W')) := Lib.hid fun W h f hf => by
      have hbe := HBE7.out.kept h
      obtain ⟨y1, y2⟩ := HYN.out W (HB7.out.trans (h.mono HB7.out.size))
      rcases hf with rfl | rfl | rfl | rfl
      · exact (AddQ_over hbe s t a1 a2 b1 b2 xs.length c1 ds.length c2 ys.length e1 es.length e2).mono fun e W' hg => ⟨hg.1, h.trans (hg.2.mono h.size)⟩
      · exact (SubQ_over hbe s t a1 a2 b1 b2 xs.length c1 ds.length c2 ys.length e1 es.length e2).mono fun e W' hg => ⟨hg.1, h.trans (hg.2.mono h.size)⟩
      · exact (MulQ_over hbe s t a1 a2 b1 b2 xs.length c1 ds.length c2 ys.length e1 es.length e2).mono fun e W' hg => ⟨hg.1, h.trans (hg.2.mono h.size)⟩
      · exact (DivQ_over hbe y1 y2).mono fun e W' hg => ⟨hg.1, h.trans (hg.2.mono h.size)⟩
    have HA1 := Lib.hid fun W h => HA.out W h _ (.inl rfl)
    have HA2 := Lib.hid fun W h => HA.out W h _ (.inr (.inl rfl))
    have HA3 := Lib.hid fun W h => HA.out W h _ (.inr (.inr (.inl rfl)))
    have HA4 := Lib.hid fun W h => HA.out W h _ (.inr (.inr (.inr rfl)))
    have HOV : Hid (∀ W, Below (w6.alloc (.cells #[.bool false, .slice none 0 0, .slice none 0 0] 27)).heap.size (w6.alloc (.cells #[.bool false, .slice none 0 0, .slice none 0 0] 27)) W → Calls Tryz.prog 43 #[.pointer (some ⟨w4.heap.size, 0, none⟩)] W (Gives (.bool true) W)) := Lib.hid fun W h => over_any W _ 1 true (HBE7.out.kept h)
    have HBW := Lib.hid (HB.out.trans (HB7.out.mono HB.out.size))
    clear HA HYN HBE7 HK HB4 HB7 HB HX HY HW0
    go_wp2_with fail
    generalize hW7 : w6.alloc (.cells #[.bool false, .slice none 0 0, .slice none 0 0] 27) = W7 at *
    have HW7 := Lib.hid hW7
    clear hW7
    obtain ⟨g0, g1, g2, g3, g4, g5, g6, g7, g8⟩ := HKK.out W7 (Below.refl _ _)
    go_region_held3 (fun w' => w'.cell? ⟨w.heap.size, 0, none⟩ = some (.bool s) ∧ w'.cell? ⟨w.heap.size, 1, none⟩ = some (.slice a1 xs.length c1) ∧ w'.cell? ⟨w.heap.size, 2, none⟩ = some (.slice a2 ds.length c2) ∧ w'.cell? ⟨w.heap.size + 1, 0, none⟩ = some (.bool t) ∧ w'.cell? ⟨w.heap.size + 1, 1, none⟩ = some (.slice b1 ys.length e1) ∧ w'.cell? ⟨w.heap.size + 1, 2, none⟩ = some (.slice b2 es.length e2) ∧ w'.cell? ⟨w6.heap.size, 0, none⟩ = some (.bool false) ∧ w'.cell? ⟨w6.heap.size, 1, none⟩ = some (.slice none 0 0) ∧ w'.cell? ⟨w6.heap.size, 2, none⟩ = some (.slice none 0 0))
        (first | exact HKK.out _ hb11 | exact HKK.out _ (hb11.alloc hb11.size _) | exact HKK.out _ hb10 | exact HKK.out _ hb9 | exact HKK.out _ hb8 | go_keep)
        (first
          | (go_at_call 16; (with_reducible refine (HA1.out _ (below_drew _)).mono ?_); rintro e w8 ⟨rfl, hb8⟩)
          | (go_at_call 19; (with_reducible refine (HA2.out _ hb8).mono ?_); rintro e w9 ⟨rfl, hb9⟩)
          | (go_at_call 22; (with_reducible refine (HA3.out _ hb9).mono ?_); rintro e w10 ⟨rfl, hb10⟩)
          | (go_at_call 25; (with_reducible refine (HA4.out _ hb10).mono ?_); rintro e w11 ⟨rfl, hb11⟩))
    have hz := heap_alloc_new w11 (.cells #[.bool false, .slice none 0 0, .slice none 0 0, .bool false, .slice none 0 0, .slice none 0 0, .bool false, .slice none 0 0, .slice none 0 0, .bool false, .slice none 0 0, .slice none 0 0, .bool false, .slice none 0 0, .slice none 0 0] 27)
    have hb12 := hb11.alloc hb11.size (.cells #[.bool false, .slice none 0 0, .slice none 0 0, .bool false, .slice none 0 0, .slice none 0 0, .bool false, .slice none 0 0, .slice none 0 0, .bool false, .slice none 0 0, .slice none 0 0, .bool false, .slice none 0 0, .slice none 0 0] 27)
    have hlt12 : w11.heap.size < (w11.alloc (.cells #[.bool false, .slice none 0 0, .slice none 0 0, .bool false, .slice none 0 0, .slice none 0 0, .bool false, .slice none 0 0, .slice none 0 0, .bool false, .slice none 0 0, .slice none 0 0, .bool false, .slice none 0 0, .slice none 0 0] 27)).heap.size := by simp
    clear HA1 HA2 HA3 HA4 HKK hb8 hb9 hb10 hb11 g0 g1 g2 g3 g4 g5 g6 g7 g8 p0 p1 p2 p3 p4 p5 HW7
    generalize w11.alloc (.cells #[.bool false, .slice none 0 0, .slice none 0 0, .bool false, .slice none 0 0, .slice none 0 0, .bool false, .slice none 0 0, .slice none 0 0, .bool false, .slice none 0 0, .slice none 0 0, .bool false, .slice none 0 0, .slice none 0 0] 27) = W12 at *
    generalize w11.heap.size = g at *
    have HB12 := Lib.hid hb12
    have HZ := Lib.hid hz
    clear hb12 hz
    go_wp2_with fail
    go_loopw [63] (fun i wr => ∃ k : Nat, k ≤ 5 ∧ i = .int .i64 k ∧ Below W12.heap.size W12 wr) (fun i _ => 5 - (intOf i).toNat)
    case atStart => exact ⟨0, by omega, rfl, Below.refl _ _⟩
    case round =>
      obtain ⟨k, hk, rfl, hb⟩ := hrel
      by_cases hlt : k < 5
      · obtain ⟨d0, d1, d2⟩ := Rats.five ((hb.block _ hlt12).trans HZ.out) k hlt
        have hgr : g < wr.heap.size := Nat.lt_of_lt_of_le hlt12 hb.size
        have HBR := Lib.hid hb
        clear hb
        go_wp2_with fail
        refine (same_zero _).mono ?_
        rintro e wn ⟨rfl, hbn⟩
        have HBN := Lib.hid (HBR.out.trans (((Below.refl wr.heap.size wr).alloc (Nat.le_refl _) _).trans (hbn.mono (by simp)) |>.mono HBR.out.size))
        clear hbn HBR
        go_wp2_with fail
        go_roundw
        case rel => exact ⟨k + 1, by omega, by go_num, HBN.out⟩
        case measure => simp [intOf]; omega
      · obtain rfl : k = 5 := by omega
        have HBR := Lib.hid hb
        have HO := Lib.hid (HOV.out _ (HB12.out.trans (hb.mono HB12.out.size)))
        clear hb hlt
        go_wp2_with fail
        refine HO.out.mono ?_
        rintro e wn ⟨rfl, rfl⟩
        go_wp2_with fail
        go_ret
        exact ⟨rfl, HBW.out.trans ((HB12.out.trans (HBR.out.mono HB12.out.size)).mono HBW.out.size)⟩
end Go.Proofs.YtomoemgoglghlaaGreatDoor

/-
  A bench with room enough, and ratios: what its calls give, said of one state.
-/
set_option linter.unusedVariables false
set_option linter.unusedSimpArgs false
namespace Go.Proofs.YtomoemgoglghlaaGreatDoor
open Go.RowKit Rep

theorem L_pos_len {n : Nat} : (L n).length ≤ (L (denN n)).length + 1 := by
  unfold denN
  by_cases h : n = 1
  · rw [if_pos h, h]
    have : (L 1).length ≤ 1 := by rw [L_len]; omega
    omega
  · rw [if_neg h]; omega
theorem denN_le (n : Nat) : denN n ≤ n := by unfold denN; split <;> omega
theorem szQ_mk (s : Bool) (n : Nat) {d k : Nat} (hd : 0 < d) (h1 : (L n).length ≤ k) (h2 : (L d).length ≤ k) : szQ (mkQ s n d) ≤ k := by
  unfold szQ
  rw [mkQ_mg s n hd, mkQ_den s n hd]
  have e1 := L_le h1 (Nat.div_le_self n (Nat.gcd n d))
  have e2 := L_le h2 (Nat.le_trans (denN_le _) (Nat.div_le_self d (Nat.gcd n d)))
  omega
theorem szQ_parts (x : Rat) : (L (mgQ x)).length ≤ szQ x ∧ (L x.den).length ≤ szQ x + 1 := by
  have h := @L_pos_len x.den
  unfold szQ
  omega
theorem sumN_le (s : Bool) (a : Nat) (t : Bool) (b : Nat) : sumN s a t b ≤ a + b := by unfold sumN; split <;> (try split) <;> omega
theorem szQ_add (x y : Rat) : szQ (x + y) ≤ szQ x + szQ y + 3 := by
  obtain ⟨x1, x2⟩ := szQ_parts x
  obtain ⟨y1, y2⟩ := szQ_parts y
  rw [sum_q]
  refine szQ_mk _ _ (Nat.mul_pos (den_pos x) (den_pos y)) ?_ ?_
  · have h1 := L_mul x1 y2
    have h2 := L_mul y1 x2
    have h3 := L_le (L_add h1 h2) (sumN_le (ngQ x) (mgQ x * y.den) (ngQ y) (mgQ y * x.den))
    omega
  · have := L_mul x2 y2; omega
theorem szQ_mul (x y : Rat) : szQ (x * y) ≤ szQ x + szQ y + 3 := by
  obtain ⟨x1, x2⟩ := szQ_parts x
  obtain ⟨y1, y2⟩ := szQ_parts y
  rw [mul_q]
  refine szQ_mk _ _ (Nat.mul_pos (den_pos x) (den_pos y)) ?_ ?_
  · have := L_mul x1 y1; omega
  · have := L_mul x2 y2; omega
theorem szQ_neg (x : Rat) : szQ (-x) = szQ x := by unfold szQ; rw [neg_mg, neg_den]
theorem szQ_sub (x y : Rat) : szQ (x - y) ≤ szQ x + szQ y + 3 := by
  rw [Rat.sub_eq_add_neg]; have := szQ_add x (-y); rw [szQ_neg] at this; exact this
theorem ov_fits {m : Nat} {q : Rat} (h : szQ q ≤ m) : ovQ m q = false ∧ outQ m q = q := by
  have ho : ovQ m q = false := by unfold szQ at h; simp [ovQ, rO]; omega
  exact ⟨ho, by unfold outQ; rw [ho]; rfl⟩

theorem grownBy_trans' {W0 W1 W2 : World} {r : Option Nat} (h : W0.grownBy W1 r) (k : W1.grownBy W2 r) : W0.grownBy W2 r :=
  ⟨k.os.trans h.os, k.tape.trans h.tape, k.output.trans h.output, Nat.le_trans h.size k.size, fun i hi hne => (k.block i (Nat.lt_of_lt_of_le hi h.size) hne).trans (h.block i hi hne)⟩
/-- A ratio's raw parts, and the number that they are. -/
abbrev QV := RawR × Rat
structure OkQ (W : World) (t : QV) : Prop where
  sg : t.1.1 = ngQ t.2
  l1 : t.1.2.1.2.1 = (L (mgQ t.2)).length
  l2 : t.1.2.2.2.1 = (L (denN t.2.den)).length
  at' : AtQ W t.1.2.1.1 t.1.2.1.2.2 t.1.2.2.1 t.1.2.2.2.2 t.2
  sz : szQ t.2 ≤ 1000
theorem OkQ.kept {W W' : World} {t : QV} (h : OkQ W t) (hb : Below W.heap.size W W') : OkQ W' t := ⟨h.sg, h.l1, h.l2, h.at'.kept hb, h.sz⟩
theorem OkQ.bench {W W' : World} {b m : Nat} {o : Bool} {t : QV} (h : OkQ W t) (hb : Bench W b m o) (hg : W.grownBy W' (some b)) : OkQ W' t := ⟨h.sg, h.l1, h.l2, h.at'.bench hb hg, h.sz⟩
/-- A bench that isn't over, a variable that holds it, and ratios. -/
structure StQ (b m pb : Nat) (base W0 W : World) (l : List QV) : Prop where
  g0 : W0.grownBy W (some b)
  bench : Bench W b m false
  below : Below base.heap.size base W
  ge : base.heap.size ≤ b
  tab : Tab W
  cell : W.cell? ⟨pb, 0, none⟩ = some (.pointer (some ⟨b, 0, none⟩))
  pne : pb ≠ b
  vals : ∀ t ∈ l, OkQ W t
theorem StQ.grown {b m pb : Nat} {base W0 W W' : World} {l : List QV} (h : StQ b m pb base W0 W l) (hb : Bench W' b m false) (hg : W.grownBy W' (some b)) : StQ b m pb base W0 W' l :=
  ⟨grownBy_trans' h.g0 hg, hb, h.below.grown hg h.below.size (fun k hk => by cases hk; exact h.ge), h.ge, h.tab.bench h.bench hg, hg.cell h.cell (by simpa using h.pne), h.pne, fun t ht => (h.vals t ht).bench h.bench hg⟩
theorem StQ.kept {b m pb : Nat} {base W0 W W' : World} {l : List QV} (h : StQ b m pb base W0 W l) (hb : Below W.heap.size W W') : StQ b m pb base W0 W' l :=
  ⟨grownBy_trans' h.g0 (grown_of_below hb _), h.bench.kept hb, h.below.trans (hb.mono h.below.size), h.ge, h.tab.kept hb, (hb.cell (p := ⟨pb, 0, none⟩) (World.block_lt_of_cell? _ _ h.cell)).trans h.cell, h.pne, fun t ht => (h.vals t ht).kept hb⟩
theorem StQ.cons {b m pb : Nat} {base W0 W : World} {l : List QV} (h : StQ b m pb base W0 W l) {t : QV} (ht : OkQ W t) : StQ b m pb base W0 W (t :: l) :=
  ⟨h.g0, h.bench, h.below, h.ge, h.tab, h.cell, h.pne, fun u hu => by
    rcases List.mem_cons.1 hu with rfl | hu
    · exact ht
    · exact h.vals u hu⟩
/-- A call gives q, and the state goes on. -/
def GoesQ (b m pb : Nat) (base W0 W : World) (l : List QV) (q : Rat) (e : Ending) (W' : World) : Prop :=
  ∃ s a1 l1 c1 a2 l2 c2, e = .returned (.agg #[.bool s, .slice a1 l1 c1, .slice a2 l2 c2]) ∧ Hid (StQ b m pb base W0 W' (((s, (a1, l1, c1), (a2, l2, c2)), q) :: l) )
theorem GivesQ.goes {b m pb : Nat} {base W0 W W' : World} {l : List QV} {q : Rat} {e : Ending} (hg : GivesQ b m q W e W') (h : StQ b m pb base W0 W l) (h1 : szQ q ≤ m) (h2 : szQ q ≤ 1000) : GoesQ b m pb base W0 W l q e W' := by
  obtain ⟨a1, c1, a2, c2, rfl, f1, f2, f3⟩ := hg
  obtain ⟨o1, o2⟩ := ov_fits h1
  rw [o2] at f1 ⊢
  rw [o1] at f2
  exact ⟨_, _, _, _, _, _, _, rfl, Lib.hid ((h.grown f2 f3).cons ⟨rfl, rfl, rfl, f1, h2⟩)⟩
section
variable {b m pb : Nat} {base W0 W : World} {l : List QV} {s t : Bool} {a1 a2 b1 b2 : Option Addr} {l1 c1 l2 c2 k1 e1 k2 e2 : Nat} {x y : Rat}
theorem StQ.ok (h : StQ b m pb base W0 W l) (hx : ((s, (a1, l1, c1), (a2, l2, c2)), x) ∈ l) : RatX W s a1 l1 c1 a2 l2 c2 (mgQ x) x.den (denN x.den) x ∧ (.agg #[.bool s, .slice a1 l1 c1, .slice a2 l2 c2] : Value) = qV x a1 c1 a2 c2 ∧ AtQ W a1 c1 a2 c2 x ∧ szQ x ≤ 1000 := by
  obtain ⟨h1, h2, h3, h4, h5⟩ := h.vals _ hx
  dsimp only at h1 h2 h3 h4 h5
  subst h1 h2 h3
  exact ⟨h4.x (by omega), rfl, h4, h5⟩
theorem StQ.add (h : StQ b m pb base W0 W l) (hx : ((s, (a1, l1, c1), (a2, l2, c2)), x) ∈ l) (hy : ((t, (b1, k1, e1), (b2, k2, e2)), y) ∈ l) {q : Rat} (hq : x + y = q) (g1 : szQ q ≤ m) (g2 : szQ q ≤ 1000) :
    Calls Tryz.prog 16 #[.pointer (some ⟨b, 0, none⟩), .agg #[.bool s, .slice a1 l1 c1, .slice a2 l2 c2], .agg #[.bool t, .slice b1 k1 e1, .slice b2 k2 e2]] W (GoesQ b m pb base W0 W l q) := by
  subst hq
  exact (Add_q h.bench h.tab (h.ok hx).1 (h.ok hy).1).mono fun e W' hg => hg.goes h g1 g2
theorem StQ.sub (h : StQ b m pb base W0 W l) (hx : ((s, (a1, l1, c1), (a2, l2, c2)), x) ∈ l) (hy : ((t, (b1, k1, e1), (b2, k2, e2)), y) ∈ l) {q : Rat} (hq : x - y = q) (g1 : szQ q ≤ m) (g2 : szQ q ≤ 1000) :
    Calls Tryz.prog 19 #[.pointer (some ⟨b, 0, none⟩), .agg #[.bool s, .slice a1 l1 c1, .slice a2 l2 c2], .agg #[.bool t, .slice b1 k1 e1, .slice b2 k2 e2]] W (GoesQ b m pb base W0 W l q) := by
  subst hq
  exact (Sub_q h.bench h.tab (h.ok hx).1 (h.ok hy).1).mono fun e W' hg => hg.goes h g1 g2
theorem StQ.mul (h : StQ b m pb base W0 W l) (hx : ((s, (a1, l1, c1), (a2, l2, c2)), x) ∈ l) (hy : ((t, (b1, k1, e1), (b2, k2, e2)), y) ∈ l) {q : Rat} (hq : x * y = q) (g1 : szQ q ≤ m) (g2 : szQ q ≤ 1000) :
    Calls Tryz.prog 22 #[.pointer (some ⟨b, 0, none⟩), .agg #[.bool s, .slice a1 l1 c1, .slice a2 l2 c2], .agg #[.bool t, .slice b1 k1 e1, .slice b2 k2 e2]] W (GoesQ b m pb base W0 W l q) := by
  subst hq
  exact (Mul_q h.bench h.tab (h.ok hx).1 (h.ok hy).1).mono fun e W' hg => hg.goes h g1 g2
theorem StQ.div (h : StQ b m pb base W0 W l) (hx : ((s, (a1, l1, c1), (a2, l2, c2)), x) ∈ l) (hy : ((t, (b1, k1, e1), (b2, k2, e2)), y) ∈ l) {q : Rat} (hq : x / y = q) (g1 : szQ q ≤ m) (g2 : szQ q ≤ 1000) :
    Calls Tryz.prog 25 #[.pointer (some ⟨b, 0, none⟩), .agg #[.bool s, .slice a1 l1 c1, .slice a2 l2 c2], .agg #[.bool t, .slice b1 k1 e1, .slice b2 k2 e2]] W (GoesQ b m pb base W0 W l q) := by
  subst hq
  exact (Div_q h.bench h.tab (h.ok hx).1 (h.ok hy).1).mono fun e W' hg => hg.goes h g1 g2
theorem StQ.cmp (h : StQ b m pb base W0 W l) (hx : ((s, (a1, l1, c1), (a2, l2, c2)), x) ∈ l) (hy : ((t, (b1, k1, e1), (b2, k2, e2)), y) ∈ l) {r : Int} (hr : cmpQ x y = r) :
    Calls Tryz.prog 27 #[.agg #[.bool s, .slice a1 l1 c1, .slice a2 l2 c2], .agg #[.bool t, .slice b1 k1 e1, .slice b2 k2 e2]] W fun e W' => e = .returned (.int .i64 r) ∧ Hid (StQ b m pb base W0 W' l) := by
  subst hr
  exact (CmpP_q (h.ok hx).1 (h.ok hy).1).mono fun e W' hg => ⟨hg.1, Lib.hid (h.kept hg.2)⟩
theorem StQ.sign (h : StQ b m pb base W0 W l) (hx : ((s, (a1, l1, c1), (a2, l2, c2)), x) ∈ l) {r : Int} (hr : cmpQ x 0 = r) :
    Calls Tryz.prog 29 #[.agg #[.bool s, .slice a1 l1 c1, .slice a2 l2 c2]] W fun e W' => e = .returned (.int .i64 r) ∧ Hid (StQ b m pb base W0 W' l) := by
  subst hr
  exact (Sign_q (h.ok hx).1).mono fun e W' hg => ⟨hg.1, Lib.hid (h.kept hg.2)⟩
theorem StQ.same (h : StQ b m pb base W0 W l) (hx : ((s, (a1, l1, c1), (a2, l2, c2)), x) ∈ l) (hy : ((t, (b1, k1, e1), (b2, k2, e2)), y) ∈ l) (hxy : x = y) :
    Calls Tryz.prog 31 #[.agg #[.bool s, .slice a1 l1 c1, .slice a2 l2 c2], .agg #[.bool t, .slice b1 k1 e1, .slice b2 k2 e2]] W fun e W' => e = .returned (.bool true) ∧ Hid (StQ b m pb base W0 W' l) := by
  subst hxy
  obtain ⟨_, v1, f1, g1⟩ := h.ok hx
  obtain ⟨_, v2, f2, g2⟩ := h.ok hy
  rw [v1, v2]
  unfold szQ at g1
  refine (SameR_any (ngQ x) (ngQ x) a1 a2 b1 b2 c1 c2 e1 e2 (L (mgQ x)) (L (denN x.den)) (L (mgQ x)) (L (denN x.den)) W f1.num.1 f1.den.1 f2.num.1 f2.den.1 (by omega) (by omega)).mono ?_
  rintro e W' ⟨rfl, hb⟩
  exact ⟨by simp, Lib.hid (h.kept hb)⟩
theorem StQ.over (h : StQ b m pb base W0 W l) : Calls Tryz.prog 43 #[.pointer (some ⟨b, 0, none⟩)] W fun e W' => e = .returned (.bool false) ∧ Hid (StQ b m pb base W0 W' l) :=
  (over_any W b m false h.bench).mono fun e W' hg => ⟨hg.1, by rw [← hg.2]; exact Lib.hid h⟩
end

/-- What Right tells of a ratio that a law is handed. -/
theorem okq_of_right {W : World} {s : Bool} {a1 a2 : Option Addr} {c1 c2 : Nat} {xs ds : List Nat} (h : HandR W a1 c1 xs a2 c2 ds) (hr : rightB s xs ds = true) (lx : xs.length ≤ 6) (ld : ds.length ≤ 6) :
    ∃ q, OkQ W ((s, (a1, xs.length, c1), (a2, ds.length, c2)), q) ∧ szQ q ≤ 6 := by
  obtain ⟨h1, h2, h3⟩ := of_decide_eq_true hr
  generalize qOf s xs ds = q at *
  have e1 : xs.length = (L (mgQ q)).length := congrArg List.length h2
  have e2 : ds.length = (L (denN q.den)).length := congrArg List.length h3
  have hs : szQ q ≤ 6 := by unfold szQ; omega
  refine ⟨q, ⟨h1, e1, e2, ⟨⟨?_, ?_, h.num.cap⟩, ⟨?_, ?_, h.den.cap⟩⟩, by show szQ q ≤ 1000; omega⟩, hs⟩
  · rw [← h2]; exact h.num.reads
  · rw [← h2]; exact h.num.le
  · rw [← h3]; exact h.den.reads
  · rw [← h3]; exact h.den.le
end Go.Proofs.YtomoemgoglghlaaGreatDoor

/-
  RatioRules: the law's walk.
-/
set_option linter.unusedVariables false
set_option linter.unusedSimpArgs false
namespace Go.Proofs.YtomoemgoglghlaaGreatDoor
open Go.RowKit Rep

set_option maxRecDepth 100000 in
set_option maxHeartbeats 4000000 in
theorem rulesAdd {b m pb : Nat} {base V0 W : World} {l : List QV} {s t : Bool} {a1 a2 b1 b2 : Option Addr} {l1 c1 l2 c2 k1 e1 k2 e2 : Nat} {x y : Rat} (h : StQ b m pb base V0 W l) (hx : ((s, (a1, l1, c1), (a2, l2, c2)), x) ∈ l) (hy : ((t, (b1, k1, e1), (b2, k2, e2)), y) ∈ l) {q : Rat} (hq : x + y = q) (g1 : szQ q ≤ m) (g2 : szQ q ≤ 1000) :
    Calls Tryz.prog 49 #[.agg #[.bool s, .slice a1 l1 c1, .slice a2 l2 c2], .agg #[.bool t, .slice b1 k1 e1, .slice b2 k2 e2], .pointer (some ⟨pb, 0, none⟩)] W (GoesQ b m pb base V0 W l q) := by
  obtain ⟨W0, hW0, hB0, f1, f2, f3, hs⟩ := boxes3 W #[.bool s, .slice a1 l1 c1, .slice a2 l2 c2] #[.bool t, .slice b1 k1 e1, .slice b2 k2 e2] #[.bool false, .slice none 0 0, .slice none 0 0] 27 27 27
  have h0 := h.kept hB0
  have hbl := h.bench.lt
  have HA := Lib.hid (Add_q h0.bench h0.tab (h0.ok hx).1 (h0.ok hy).1)
  rw [hq] at HA
  have HTH : Hid (∀ e W', GivesQ b m q W0 e W' → _) := Lib.hid fun e W' hg => hg.through (grown_of_below hB0 (some b)) (by omega : W.heap.size ≤ W.heap.size + 1 + 1) (by omega) f3
  have HGO : Hid (∀ e W', GivesQ b m q W e W' → GoesQ b m pb base V0 W l q e W') := Lib.hid fun e W' hg => hg.goes h g1 g2
  have hpc := h.cell
  have hpl := World.block_lt_of_cell? _ _ h.cell
  dsimp only at hpl
  have hpl1 : pb < W.heap.size + 1 := by omega
  have hpl2 : pb < W.heap.size + 1 + 1 := by omega
  have hpn : pb ≠ W.heap.size := by omega
  have hpn1 : pb ≠ W.heap.size + 1 := by omega
  have hpn2 : pb ≠ W.heap.size + 1 + 1 := by omega
  have HW0 := Lib.hid hW0
  obtain ⟨p0, p1, p2, _⟩ := cells3 f1
  obtain ⟨p3, p4, p5, _⟩ := cells3 f2
  clear hW0 hB0 f1 f2 f3 hs h0 h hx hy hq
  unfold ratV at HA
  go_enter Tryz.func49, Tryz.ntmps49
  go_wp2_with fail
  rw [← HW0.out]
  refine HA.out.mono ?_
  intro e w1 hg
  obtain ⟨tt, x1, x2, x3, y1, y2, y3, rfl, hbl1, _, hx1⟩ := HTH.out e w1 hg
  obtain ⟨m0, m1, m2, n0, n1, n2⟩ := hbl1.cells
  have HE := Lib.hid (HGO.out _ _ hx1)
  clear hg hbl1 hx1 HTH HA HW0 HGO
  go_wp2_with fail
  exact bodyPost_ret (v := ratV tt (.slice x1 x2 x3) (.slice y1 y2 y3)) (by simp [results, Tryz.results49, go_sem, ratV, m0, m1, m2]) rfl HE.out

set_option maxRecDepth 100000 in
set_option maxHeartbeats 4000000 in
theorem rulesMul {b m pb : Nat} {base V0 W : World} {l : List QV} {s t : Bool} {a1 a2 b1 b2 : Option Addr} {l1 c1 l2 c2 k1 e1 k2 e2 : Nat} {x y : Rat} (h : StQ b m pb base V0 W l) (hx : ((s, (a1, l1, c1), (a2, l2, c2)), x) ∈ l) (hy : ((t, (b1, k1, e1), (b2, k2, e2)), y) ∈ l) {q : Rat} (hq : x * y = q) (g1 : szQ q ≤ m) (g2 : szQ q ≤ 1000) :
    Calls Tryz.prog 50 #[.agg #[.bool s, .slice a1 l1 c1, .slice a2 l2 c2], .agg #[.bool t, .slice b1 k1 e1, .slice b2 k2 e2], .pointer (some ⟨pb, 0, none⟩)] W (GoesQ b m pb base V0 W l q) := by
  obtain ⟨W0, hW0, hB0, f1, f2, f3, hs⟩ := boxes3 W #[.bool s, .slice a1 l1 c1, .slice a2 l2 c2] #[.bool t, .slice b1 k1 e1, .slice b2 k2 e2] #[.bool false, .slice none 0 0, .slice none 0 0] 27 27 27
  have h0 := h.kept hB0
  have hbl := h.bench.lt
  have HA := Lib.hid (Mul_q h0.bench h0.tab (h0.ok hx).1 (h0.ok hy).1)
  rw [hq] at HA
  have HTH : Hid (∀ e W', GivesQ b m q W0 e W' → _) := Lib.hid fun e W' hg => hg.through (grown_of_below hB0 (some b)) (by omega : W.heap.size ≤ W.heap.size + 1 + 1) (by omega) f3
  have HGO : Hid (∀ e W', GivesQ b m q W e W' → GoesQ b m pb base V0 W l q e W') := Lib.hid fun e W' hg => hg.goes h g1 g2
  have hpc := h.cell
  have hpl := World.block_lt_of_cell? _ _ h.cell
  dsimp only at hpl
  have hpl1 : pb < W.heap.size + 1 := by omega
  have hpl2 : pb < W.heap.size + 1 + 1 := by omega
  have hpn : pb ≠ W.heap.size := by omega
  have hpn1 : pb ≠ W.heap.size + 1 := by omega
  have hpn2 : pb ≠ W.heap.size + 1 + 1 := by omega
  have HW0 := Lib.hid hW0
  obtain ⟨p0, p1, p2, _⟩ := cells3 f1
  obtain ⟨p3, p4, p5, _⟩ := cells3 f2
  clear hW0 hB0 f1 f2 f3 hs h0 h hx hy hq
  unfold ratV at HA
  go_enter Tryz.func50, Tryz.ntmps50
  go_wp2_with fail
  rw [← HW0.out]
  refine HA.out.mono ?_
  intro e w1 hg
  obtain ⟨tt, x1, x2, x3, y1, y2, y3, rfl, hbl1, _, hx1⟩ := HTH.out e w1 hg
  obtain ⟨m0, m1, m2, n0, n1, n2⟩ := hbl1.cells
  have HE := Lib.hid (HGO.out _ _ hx1)
  clear hg hbl1 hx1 HTH HA HW0 HGO
  go_wp2_with fail
  exact bodyPost_ret (v := ratV tt (.slice x1 x2 x3) (.slice y1 y2 y3)) (by simp [results, Tryz.results50, go_sem, ratV, m0, m1, m2]) rfl HE.out

theorem mem0 {a : QV} {l : List QV} : a ∈ a :: l := List.mem_cons_self ..
theorem memS {a b : QV} {l : List QV} (h : a ∈ l) : a ∈ b :: l := List.mem_cons_of_mem _ h
theorem skip_it {b : Bool} {p q : Prop} (hb : b = false) (h : q) : if b = true then p else q := by subst hb; simpa using h
theorem le1000 {a : Nat} (h : a ≤ 200) : a ≤ 1000 := by omega
theorem StQ.drop {b m pb : Nat} {base V0 W : World} {t : QV} {l : List QV} (h : StQ b m pb base V0 W (t :: l)) : StQ b m pb base V0 W l :=
  ⟨h.g0, h.bench, h.below, h.ge, h.tab, h.cell, h.pne, fun u hu => h.vals u (List.mem_cons_of_mem _ hu)⟩
theorem cmpQ_add (x y z : Rat) : cmpQ (x + z) (y + z) = cmpQ x y := by
  unfold cmpQ
  by_cases h1 : x < y <;> by_cases h2 : x = y <;> simp [h1, h2] <;> grind
theorem cmpQ_sub0 (x y : Rat) : cmpQ (x - y) 0 = cmpQ x y := by
  unfold cmpQ
  by_cases h1 : x < y <;> by_cases h2 : x = y <;> simp [h1, h2] <;> grind
theorem mul_div_q {x y : Rat} (h : y ≠ 0) : x * y / y = x := by rw [Rat.div_def, Rat.mul_assoc, Rat.mul_inv_cancel y h, Rat.mul_one]
theorem keep9 {W0 : World} {row : Option Nat} {r1 r2 r3 : Nat} {v0 v1 v2 u0 u1 u2 t0 t1 t2 : Value} {ty : TypeId} (h1 : W0.heap[r1]? = some (.cells #[v0, v1, v2] ty (0, 0))) (h2 : W0.heap[r2]? = some (.cells #[u0, u1, u2] ty (0, 0))) (h3 : W0.heap[r3]? = some (.cells #[t0, t1, t2] ty (0, 0))) (n1 : some r1 ≠ row) (n2 : some r2 ≠ row) (n3 : some r3 ≠ row) (W : World) (h : W0.grownBy W row) :
    W.cell? ⟨r1, 0, none⟩ = some v0 ∧ W.cell? ⟨r1, 1, none⟩ = some v1 ∧ W.cell? ⟨r1, 2, none⟩ = some v2 ∧ W.cell? ⟨r2, 0, none⟩ = some u0 ∧ W.cell? ⟨r2, 1, none⟩ = some u1 ∧ W.cell? ⟨r2, 2, none⟩ = some u2 ∧ W.cell? ⟨r3, 0, none⟩ = some t0 ∧ W.cell? ⟨r3, 1, none⟩ = some t1 ∧ W.cell? ⟨r3, 2, none⟩ = some t2 := by
  obtain ⟨a, b, c, _⟩ := cells3 ((h.block _ (Array.getElem?_eq_some_iff.1 h1).1 n1).trans h1)
  obtain ⟨d, e, f, _⟩ := cells3 ((h.block _ (Array.getElem?_eq_some_iff.1 h2).1 n2).trans h2)
  obtain ⟨g, i, j, _⟩ := cells3 ((h.block _ (Array.getElem?_eq_some_iff.1 h3).1 n3).trans h3)
  exact ⟨a, b, c, d, e, f, g, i, j⟩
theorem great_three {t u v : RawR} (h : greatB [t, u, v] = false) : t.2.1.2.1 ≤ 6 ∧ t.2.2.2.1 ≤ 6 ∧ u.2.1.2.1 ≤ 6 ∧ u.2.2.2.1 ≤ 6 ∧ v.2.1.2.1 ≤ 6 ∧ v.2.2.2.1 ≤ 6 := by
  simp [greatB] at h
  omega

set_option maxRecDepth 100000 in
set_option maxHeartbeats 8000000 in
theorem rulesR_walk {s0 : Bool} {a0 b0 : Option Addr} {c0 e0 : Nat} {xs0 ds0 : List Nat} {s1 : Bool} {a1 b1 : Option Addr} {c1 e1 : Nat} {xs1 ds1 : List Nat} {s2 : Bool} {a2 b2 : Option Addr} {c2 e2 : Nat} {xs2 ds2 : List Nat} {w : World} (hx0 : HandR w a0 c0 xs0 b0 e0 ds0) (hx1 : HandR w a1 c1 xs1 b1 e1 ds1) (hx2 : HandR w a2 c2 xs2 b2 e2 ds2) (hT : Tab w) :
    Calls Tryz.prog 6 #[ratV s0 (.slice a0 xs0.length c0) (.slice b0 ds0.length e0), ratV s1 (.slice a1 xs1.length c1) (.slice b1 ds1.length e1), ratV s2 (.slice a2 xs2.length c2) (.slice b2 ds2.length e2)] w (Holds w) := by
  obtain ⟨W0, hW0, hB0, k1, k2, k3, hsz⟩ := boxes3 w #[.bool s0, .slice a0 xs0.length c0, .slice b0 ds0.length e0] #[.bool s1, .slice a1 xs1.length c1, .slice b1 ds1.length e1] #[.bool s2, .slice a2 xs2.length c2, .slice b2 ds2.length e2] 27 27 27
  have HSP := Lib.hid (speaks02 (hT.kept hB0))
  have HKR := Lib.hid (fun (row : Option Nat) => keep9 (row := row) k1 k2 k3)
  have HK := Lib.hid (fun W (h : Below W0.heap.size W0 W) => keep9 (row := none) k1 k2 k3 (by simp) (by simp) (by simp) W (grown_of_below h _))
  have HW0 := Lib.hid hW0
  have HB := Lib.hid hB0
  have HT := Lib.hid (hT.kept hB0)
  have HX0 := Lib.hid (hx0.kept hB0)
  have HX1 := Lib.hid (hx1.kept hB0)
  have HX2 := Lib.hid (hx2.kept hB0)
  obtain ⟨p0, p1, p2, p3, p4, p5, p6, p7, p8⟩ := HK.out W0 (Below.refl _ _)
  have HSZ := Lib.hid hsz
  clear hW0 hB0 k1 k2 k3 hx0 hx1 hx2 hT hsz
  unfold ratV
  go_enter Tryz.func6, Tryz.ntmps6
  go_wp2_with fail
  rw [← HW0.out]
  refine HSP.out.mono ?_
  rintro e w1 ⟨rfl, hb1⟩
  obtain ⟨p0, p1, p2, p3, p4, p5, p6, p7, p8⟩ := HK.out _ hb1
  have HB1 := Lib.hid hb1
  clear hb1 HSP
  go_wp2_with fail
  have HBL1 := Lib.hid (HB.out.trans (HB1.out.mono HB.out.size))
  have hal := (Below.refl w1.heap.size w1).alloc (Nat.le_refl _) (.cells #[.bool s0, .slice a0 xs0.length c0, .slice b0 ds0.length e0, .bool s1, .slice a1 xs1.length c1, .slice b1 ds1.length e1, .bool s2, .slice a2 xs2.length c2, .slice b2 ds2.length e2] 27)
  have HAL := Lib.hid hal
  have HG : Hid (Calls Tryz.prog 11 #[.slice (some ⟨w1.heap.size, 0, none⟩) 3 3] (w1.alloc (.cells #[.bool s0, .slice a0 xs0.length c0, .slice b0 ds0.length e0, .bool s1, .slice a1 xs1.length c1, .slice b1 ds1.length e1, .bool s2, .slice a2 xs2.length c2, .slice b2 ds2.length e2] 27)) (GivesB (greatB [(s0, (a0, xs0.length, c0), (b0, ds0.length, e0)), (s1, (a1, xs1.length, c1), (b1, ds1.length, e1)), (s2, (a2, xs2.length, c2), (b2, ds2.length, e2))]) (w1.alloc (.cells #[.bool s0, .slice a0 xs0.length c0, .slice b0 ds0.length e0, .bool s1, .slice a1 xs1.length c1, .slice b1 ds1.length e1, .bool s2, .slice a2 xs2.length c2, .slice b2 ds2.length e2] 27)))) :=
    Lib.hid (Great_any w1.heap.size 3 [(s0, (a0, xs0.length, c0), (b0, ds0.length, e0)), (s1, (a1, xs1.length, c1), (b1, ds1.length, e1)), (s2, (a2, xs2.length, c2), (b2, ds2.length, e2))] _ (Rats.three (heap_alloc_new w1 _)) (by simp) (by simp))
  clear hal
  cases hgr : greatB [(s0, (a0, xs0.length, c0), (b0, ds0.length, e0)), (s1, (a1, xs1.length, c1), (b1, ds1.length, e1)), (s2, (a2, xs2.length, c2), (b2, ds2.length, e2))]
  case true =>
    rw [hgr] at HG
    clear hgr
    refine HG.out.mono ?_
    rintro e w2 ⟨rfl, hb2⟩
    have HE := Lib.hid (HBL1.out.trans ((HAL.out.trans (hb2.mono HAL.out.size)).mono HBL1.out.size))
    clear hb2 HG HAL
    go_wp2_with fail
    go_ret
    exact ⟨rfl, HE.out⟩
  case false =>
  rw [hgr] at HG
  obtain ⟨l0, m0, l1, m1, l2, m2⟩ := great_three hgr
  dsimp only at l0 m0 l1 m1 l2 m2
  clear hgr
  refine HG.out.mono ?_
  rintro e w2 ⟨rfl, hb2⟩
  have hb02 := HB1.out.trans ((HAL.out.trans (hb2.mono HAL.out.size)).mono HB1.out.size)
  have HB2 := Lib.hid hb02
  obtain ⟨p0, p1, p2, p3, p4, p5, p6, p7, p8⟩ := HK.out _ hb02
  clear hb2 hb02 HG HAL HB1 HBL1
  have HR0 := Lib.hid (RightR_any' (s := s0) (HX0.out.kept HB2.out) l0 m0)
  go_wp2_with fail
  cases hr0 : rightB s0 xs0 ds0
  case false =>
    rw [hr0] at HR0
    clear hr0
    refine HR0.out.mono ?_
    rintro e w3 ⟨rfl, hb3⟩
    have HE := Lib.hid (HB.out.trans ((HB2.out.trans (hb3.mono HB2.out.size)).mono HB.out.size))
    clear hb3 HR0
    go_wp2_with fail
    go_ret
    exact ⟨rfl, HE.out⟩
  case true =>
  rw [hr0] at HR0
  have HRT0 := Lib.hid hr0
  clear hr0
  refine HR0.out.mono ?_
  rintro e w3 ⟨rfl, hb3⟩
  have hb03 := HB2.out.trans (hb3.mono HB2.out.size)
  obtain ⟨p0, p1, p2, p3, p4, p5, p6, p7, p8⟩ := HK.out _ hb03
  have HB3 := Lib.hid hb03
  clear hb3 hb03 HR0 HB2
  have HR1 := Lib.hid (RightR_any' (s := s1) (HX1.out.kept HB3.out) l1 m1)
  go_wp2_with fail
  cases hr1 : rightB s1 xs1 ds1
  case false =>
    rw [hr1] at HR1
    clear hr1
    refine HR1.out.mono ?_
    rintro e w3 ⟨rfl, hb3⟩
    have HE := Lib.hid (HB.out.trans ((HB3.out.trans (hb3.mono HB3.out.size)).mono HB.out.size))
    clear hb3 HR1
    go_wp2_with fail
    go_ret
    exact ⟨rfl, HE.out⟩
  case true =>
  rw [hr1] at HR1
  have HRT1 := Lib.hid hr1
  clear hr1
  refine HR1.out.mono ?_
  rintro e w4 ⟨rfl, hb3⟩
  have hb03 := HB3.out.trans (hb3.mono HB3.out.size)
  obtain ⟨p0, p1, p2, p3, p4, p5, p6, p7, p8⟩ := HK.out _ hb03
  have HB4 := Lib.hid hb03
  clear hb3 hb03 HR1 HB3
  have HR2 := Lib.hid (RightR_any' (s := s2) (HX2.out.kept HB4.out) l2 m2)
  go_wp2_with fail
  cases hr2 : rightB s2 xs2 ds2
  case false =>
    rw [hr2] at HR2
    clear hr2
    refine HR2.out.mono ?_
    rintro e w3 ⟨rfl, hb3⟩
    have HE := Lib.hid (HB.out.trans ((HB4.out.trans (hb3.mono HB4.out.size)).mono HB.out.size))
    clear hb3 HR2
    go_wp2_with fail
    go_ret
    exact ⟨rfl, HE.out⟩
  case true =>
  rw [hr2] at HR2
  have HRT2 := Lib.hid hr2
  clear hr2
  refine HR2.out.mono ?_
  rintro e w5 ⟨rfl, hb3⟩
  have hb03 := HB4.out.trans (hb3.mono HB4.out.size)
  obtain ⟨p0, p1, p2, p3, p4, p5, p6, p7, p8⟩ := HK.out _ hb03
  have HB5 := Lib.hid hb03
  clear hb3 hb03 HR2 HB4
  go_wp2_with fail
  refine (new_high 200 w5 (by omega) (by unfold maxLen; omega)).mono ?_
  rintro e w' ⟨rfl, rfl⟩
  go_wp2_with fail
  obtain ⟨x, ox, zx⟩ := okq_of_right (HX0.out.kept HB5.out) HRT0.out l0 m0
  obtain ⟨y, oy, zy⟩ := okq_of_right (HX1.out.kept HB5.out) HRT1.out l1 m1
  obtain ⟨z, oz, zz⟩ := okq_of_right (HX2.out.kept HB5.out) HRT2.out l2 m2
  have hal2 := ((Below.refl w5.heap.size w5).alloc (Nat.le_refl _) (.cells #[.int .i64 200, .bool false] 116)).alloc (by simp) (.cells #[.pointer (some ⟨w5.heap.size, 0, none⟩)] 37)
  obtain ⟨W1, hW1⟩ : ∃ W1, W1 = (w5.alloc (.cells #[.int .i64 200, .bool false] 116)).alloc (.cells #[.pointer (some ⟨w5.heap.size, 0, none⟩)] 37) := ⟨_, rfl⟩
  rw [← hW1] at hal2
  have hb0 : Below w.heap.size w W1 := HB.out.trans ((HB5.out.trans (hal2.mono HB5.out.size)).mono HB.out.size)
  have hge : w.heap.size + 1 + 1 + 1 ≤ w5.heap.size := by have := HB5.out.size; have := HSZ.out; omega
  have hbe : Bench W1 w5.heap.size 200 false := by
    rw [hW1]
    exact (show Bench (w5.alloc (.cells #[.int .i64 200, .bool false] 116)) w5.heap.size 200 false from heap_alloc_new w5 _).of_block (Below.heap_alloc _ _ _ (by simp))
  have hpc : W1.cell? ⟨w5.heap.size + 1, 0, none⟩ = some (.pointer (some ⟨w5.heap.size, 0, none⟩)) := by
    have h := heap_alloc_new (w5.alloc (.cells #[.int .i64 200, .bool false] 116)) (.cells #[.pointer (some ⟨w5.heap.size, 0, none⟩)] 37)
    rw [← hW1] at h
    simp at h
    simp [World.cell?, h]
  have hst : StQ w5.heap.size 200 (w5.heap.size + 1) w W1 W1 [((s0, (a0, xs0.length, c0), (b0, ds0.length, e0)), x), ((s1, (a1, xs1.length, c1), (b1, ds1.length, e1)), y), ((s2, (a2, xs2.length, c2), (b2, ds2.length, e2)), z)] := by
    refine ⟨grown_refl _ _, hbe, hb0, by omega, (HT.out.kept HB5.out).kept hal2, hpc, by omega, fun t ht => ?_⟩
    rcases List.mem_cons.1 ht with rfl | ht
    · exact ox.kept hal2
    · rcases List.mem_cons.1 ht with rfl | ht
      · exact oy.kept hal2
      · rcases List.mem_cons.1 ht with rfl | ht
        · exact oz.kept hal2
        · cases ht
  have HST0 := Lib.hid hst
  have HKK : Hid (∀ l W, StQ w5.heap.size 200 (w5.heap.size + 1) w W1 W l → (W.cell? ⟨w.heap.size, 0, none⟩ = some (.bool s0) ∧ W.cell? ⟨w.heap.size, 1, none⟩ = some (.slice a0 xs0.length c0) ∧ W.cell? ⟨w.heap.size, 2, none⟩ = some (.slice b0 ds0.length e0) ∧ W.cell? ⟨w.heap.size + 1, 0, none⟩ = some (.bool s1) ∧ W.cell? ⟨w.heap.size + 1, 1, none⟩ = some (.slice a1 xs1.length c1) ∧ W.cell? ⟨w.heap.size + 1, 2, none⟩ = some (.slice b1 ds1.length e1) ∧ W.cell? ⟨w.heap.size + 1 + 1, 0, none⟩ = some (.bool s2) ∧ W.cell? ⟨w.heap.size + 1 + 1, 1, none⟩ = some (.slice a2 xs2.length c2) ∧ W.cell? ⟨w.heap.size + 1 + 1, 2, none⟩ = some (.slice b2 ds2.length e2) ∧ W.cell? ⟨w5.heap.size + 1, 0, none⟩ = some (.pointer (some ⟨w5.heap.size, 0, none⟩)))) := Lib.hid fun l W h => by
    have hg := h.g0
    have hk := HKR.out (some w5.heap.size) (by simp; omega) (by simp; omega) (by simp; omega)
    have hk2 : W1.cell? ⟨w.heap.size, 0, none⟩ = W1.cell? ⟨w.heap.size, 0, none⟩ := rfl
    have h01 : W0.grownBy W (some w5.heap.size) := grownBy_trans' (grown_of_below (HB5.out.trans (hal2.mono HB5.out.size)) _) hg
    obtain ⟨f0, f1, f2, f3, f4, f5, f6, f7, f8⟩ := hk W h01
    exact ⟨f0, f1, f2, f3, f4, f5, f6, f7, f8, h.cell⟩
  have a1 := szQ_add x y
  have a2 := szQ_add y z
  have a3 := szQ_mul x y
  have a4 := szQ_mul x z
  have a5 := szQ_mul x (y + z)
  have a6 := szQ_add x z
  have a7 := szQ_sub x y
  have HSIZ := Lib.hid (And.intro (by omega : szQ (x + y) ≤ 200) (And.intro (by omega : szQ (y + z) ≤ 200) (And.intro (by omega : szQ (x * y) ≤ 200) (And.intro (by omega : szQ (x * z) ≤ 200) (And.intro (by omega : szQ (x * (y + z)) ≤ 200) (And.intro (by omega : szQ x ≤ 200) (And.intro (by omega : szQ (x + z) ≤ 200) (by omega : szQ (x - y) ≤ 200))))))))
  have HW1 := Lib.hid hW1
  have HBASE := Lib.hid hb0
  clear a1 a2 a3 a4 a5 a6 a7 ox oy oz zx zy zz hal2 hb0 hbe hpc hst hW1 HX0 HX1 HX2 HRT0 HRT1 HRT2 l0 m0 l1 m1 l2 m2 HB5 HB HK HKR HT HW0 p0 p1 p2 p3 p4 p5 p6 p7 p8
  rw [← HW1.out]
  have hne1 : w5.heap.size ≠ w.heap.size := by omega
  obtain ⟨p0, p1, p2, p3, p4, p5, p6, p7, p8, p9⟩ := HKK.out _ _ HST0.out
  have HSD := Lib.hid (HST0.out.kept (below_drew W1))
  go_region_held3 (fun w' => w'.cell? ⟨w.heap.size, 0, none⟩ = some (.bool s0) ∧ w'.cell? ⟨w.heap.size, 1, none⟩ = some (.slice a0 xs0.length c0) ∧ w'.cell? ⟨w.heap.size, 2, none⟩ = some (.slice b0 ds0.length e0) ∧ w'.cell? ⟨w.heap.size + 1, 0, none⟩ = some (.bool s1) ∧ w'.cell? ⟨w.heap.size + 1, 1, none⟩ = some (.slice a1 xs1.length c1) ∧ w'.cell? ⟨w.heap.size + 1, 2, none⟩ = some (.slice b1 ds1.length e1) ∧ w'.cell? ⟨w.heap.size + 1 + 1, 0, none⟩ = some (.bool s2) ∧ w'.cell? ⟨w.heap.size + 1 + 1, 1, none⟩ = some (.slice a2 xs2.length c2) ∧ w'.cell? ⟨w.heap.size + 1 + 1, 2, none⟩ = some (.slice b2 ds2.length e2) ∧ w'.cell? ⟨w5.heap.size + 1, 0, none⟩ = some (.pointer (some ⟨w5.heap.size, 0, none⟩))) (first | exact HKK.out _ _ Hq15.out | exact HKK.out _ _ Hq14.out | exact HKK.out _ _ Hq13.out | exact HKK.out _ _ Hq12.out | exact HKK.out _ _ Hq11.out | exact HKK.out _ _ Hq10.out | exact HKK.out _ _ Hq9.out | exact HKK.out _ _ Hq8.out | exact HKK.out _ _ Hq7.out | exact HKK.out _ _ Hq6.out | exact HKK.out _ _ Hq5.out | exact HKK.out _ _ Hq4.out | exact HKK.out _ _ Hq3.out | exact HKK.out _ _ Hq2.out | exact HKK.out _ _ Hq1.out | go_keep)
      (first
        | (go_at_call 49; (with_reducible refine (rulesAdd HSD.out (mem0) (memS (mem0)) (rfl) HSIZ.out.1 (le1000 HSIZ.out.1)).mono ?_); rintro e q1w ⟨q1s, q1a, q1l, q1c, q1b, q1k, q1e, rfl, Hq1⟩)
        | (go_at_call 49; (with_reducible refine (rulesAdd Hq1.out (memS (memS (mem0))) (memS (mem0)) (Rat.add_comm y x) HSIZ.out.1 (le1000 HSIZ.out.1)).mono ?_); rintro e q2w ⟨q2s, q2a, q2l, q2c, q2b, q2k, q2e, rfl, Hq2⟩)
        | (go_at_call 31; (with_reducible refine (Hq2.out.same (memS (mem0)) (mem0) (rfl)).mono ?_); rintro e q3w ⟨rfl, Hq3⟩)
        | (go_at_call 50; (with_reducible refine (rulesMul Hq3.out (memS (memS (mem0))) (memS (memS (memS (mem0)))) (rfl) HSIZ.out.2.2.1 (le1000 HSIZ.out.2.2.1)).mono ?_); rintro e q4w ⟨q4s, q4a, q4l, q4c, q4b, q4k, q4e, rfl, Hq4⟩)
        | (go_at_call 50; (with_reducible refine (rulesMul Hq4.out (memS (memS (memS (memS (mem0))))) (memS (memS (memS (mem0)))) (Rat.mul_comm y x) HSIZ.out.2.2.1 (le1000 HSIZ.out.2.2.1)).mono ?_); rintro e q5w ⟨q5s, q5a, q5l, q5c, q5b, q5k, q5e, rfl, Hq5⟩)
        | (go_at_call 31; (with_reducible refine (Hq5.out.same (memS (mem0)) (mem0) (rfl)).mono ?_); rintro e q6w ⟨rfl, Hq6⟩)
        | (go_at_call 49; (with_reducible refine (rulesAdd Hq6.out (memS (memS (memS (memS (memS (mem0)))))) (memS (memS (memS (memS (memS (memS (mem0))))))) (rfl) HSIZ.out.2.1 (le1000 HSIZ.out.2.1)).mono ?_); rintro e q7w ⟨q7s, q7a, q7l, q7c, q7b, q7k, q7e, rfl, Hq7⟩)
        | (go_at_call 50; (with_reducible refine (rulesMul Hq7.out (memS (memS (memS (memS (memS (mem0)))))) (mem0) (rfl) HSIZ.out.2.2.2.2.1 (le1000 HSIZ.out.2.2.2.2.1)).mono ?_); rintro e q8w ⟨q8s, q8a, q8l, q8c, q8b, q8k, q8e, rfl, Hq8⟩)
        | (go_at_call 50; (with_reducible refine (rulesMul Hq8.out (memS (memS (memS (memS (memS (memS (mem0))))))) (memS (memS (memS (memS (memS (memS (memS (mem0)))))))) (rfl) HSIZ.out.2.2.1 (le1000 HSIZ.out.2.2.1)).mono ?_); rintro e q9w ⟨q9s, q9a, q9l, q9c, q9b, q9k, q9e, rfl, Hq9⟩)
        | (go_at_call 50; (with_reducible refine (rulesMul Hq9.out (memS (memS (memS (memS (memS (memS (memS (mem0)))))))) (memS (memS (memS (memS (memS (memS (memS (memS (memS (mem0)))))))))) (rfl) HSIZ.out.2.2.2.1 (le1000 HSIZ.out.2.2.2.1)).mono ?_); rintro e q10w ⟨q10s, q10a, q10l, q10c, q10b, q10k, q10e, rfl, Hq10⟩)
        | (go_at_call 49; (with_reducible refine (rulesAdd Hq10.out (memS (mem0)) (mem0) ((Rat.mul_add x y z).symm) HSIZ.out.2.2.2.2.1 (le1000 HSIZ.out.2.2.2.2.1)).mono ?_); rintro e q11w ⟨q11s, q11a, q11l, q11c, q11b, q11k, q11e, rfl, Hq11⟩)
        | (go_at_call 31; (with_reducible refine (Hq11.out.same (memS (memS (memS (mem0)))) (mem0) (rfl)).mono ?_); rintro e q12w ⟨rfl, Hq12⟩)
        | (go_at_call 49; (with_reducible refine (rulesAdd Hq12.out (memS (memS (memS (memS (memS (memS (memS (memS (memS (mem0)))))))))) (memS (memS (memS (memS (memS (memS (memS (memS (memS (memS (mem0))))))))))) (rfl) HSIZ.out.1 (le1000 HSIZ.out.1)).mono ?_); rintro e q13w ⟨q13s, q13a, q13l, q13c, q13b, q13k, q13e, rfl, Hq13⟩)
        | (go_at_call 19; (with_reducible refine (Hq13.out.sub (mem0) (memS (memS (memS (memS (memS (memS (memS (memS (memS (memS (memS (mem0)))))))))))) (by grind) HSIZ.out.2.2.2.2.2.1 (le1000 HSIZ.out.2.2.2.2.2.1)).mono ?_); rintro e q14w ⟨q14s, q14a, q14l, q14c, q14b, q14k, q14e, rfl, Hq14⟩)
        | (go_at_call 31; (with_reducible refine (Hq14.out.same (mem0) (memS (memS (memS (memS (memS (memS (memS (memS (memS (memS (memS (mem0)))))))))))) (rfl)).mono ?_); rintro e q15w ⟨rfl, Hq15⟩))
  have HSA := Lib.hid (Hq15.out.drop.drop.drop.drop.drop.drop.drop.drop.drop.drop.drop)
  clear Hq1 Hq2 Hq3 Hq4 Hq5 Hq6 Hq7 Hq8 Hq9 Hq10 Hq11 Hq12 Hq13 Hq14 Hq15 HSD HST0
  obtain ⟨p0, p1, p2, p3, p4, p5, p6, p7, p8, p9⟩ := HKK.out _ _ HSA.out
  have HSB := Lib.hid (HSA.out.kept (below_drew _))
  have HADD := Lib.hid (cmpQ_add x y z)
  have HSUB := Lib.hid (cmpQ_sub0 x y)
  have HNEG := Lib.hid (cmpQ_neg x y)
  have hcv := cmpQ_vals x y
  obtain ⟨c, hc⟩ : ∃ c, cmpQ x y = c := ⟨_, rfl⟩
  obtain ⟨d, hd⟩ : ∃ d, cmpQ y x = d := ⟨_, rfl⟩
  have hwd : IntKind.i64.wrap (-d) = c := by
    have h1 := HNEG.out
    rw [hc, hd] at h1
    rw [← h1]
    exact wrap_small (by rw [hc] at hcv; omega) (by rw [hc] at hcv; omega)
  have HC := Lib.hid hc
  have HD := Lib.hid hd
  clear hc hd hcv HNEG
  have hrv := cmpQ_vals y 0
  rcases hrv with hz | hz | hz
  · have HDV : Hid (x * y / y = x) := Lib.hid (mul_div_q (fun e => by rw [e] at hz; revert hz; unfold cmpQ; rw [if_neg Rat.lt_irrefl, if_pos rfl]; decide))
    have HRS := Lib.hid hz
    clear hz
    go_wp2_with fail
    go_region_held3 (fun w' => w'.cell? ⟨w.heap.size, 0, none⟩ = some (.bool s0) ∧ w'.cell? ⟨w.heap.size, 1, none⟩ = some (.slice a0 xs0.length c0) ∧ w'.cell? ⟨w.heap.size, 2, none⟩ = some (.slice b0 ds0.length e0) ∧ w'.cell? ⟨w.heap.size + 1, 0, none⟩ = some (.bool s1) ∧ w'.cell? ⟨w.heap.size + 1, 1, none⟩ = some (.slice a1 xs1.length c1) ∧ w'.cell? ⟨w.heap.size + 1, 2, none⟩ = some (.slice b1 ds1.length e1) ∧ w'.cell? ⟨w.heap.size + 1 + 1, 0, none⟩ = some (.bool s2) ∧ w'.cell? ⟨w.heap.size + 1 + 1, 1, none⟩ = some (.slice a2 xs2.length c2) ∧ w'.cell? ⟨w.heap.size + 1 + 1, 2, none⟩ = some (.slice b2 ds2.length e2) ∧ w'.cell? ⟨w5.heap.size + 1, 0, none⟩ = some (.pointer (some ⟨w5.heap.size, 0, none⟩))) (first | exact HKK.out _ _ Hf4.out | exact HKK.out _ _ Hf3.out | exact HKK.out _ _ Hf2.out | exact HKK.out _ _ Hf1.out | go_keep)
        (first
          | (go_at_call 29; (with_reducible refine (HSB.out.sign (memS (mem0)) (HRS.out)).mono ?_); rintro e f1w ⟨rfl, Hf1⟩)
          | (go_at_call 50; (with_reducible refine (rulesMul Hf1.out (mem0) (memS (mem0)) (rfl) HSIZ.out.2.2.1 (le1000 HSIZ.out.2.2.1)).mono ?_); rintro e f2w ⟨f2s, f2a, f2l, f2c, f2b, f2k, f2e, rfl, Hf2⟩)
          | (go_at_call 25; (with_reducible refine (Hf2.out.div (mem0) (memS (memS (mem0))) (HDV.out) HSIZ.out.2.2.2.2.2.1 (le1000 HSIZ.out.2.2.2.2.2.1)).mono ?_); rintro e f3w ⟨f3s, f3a, f3l, f3c, f3b, f3k, f3e, rfl, Hf3⟩)
          | (go_at_call 31; (with_reducible refine (Hf3.out.same (mem0) (memS (memS (mem0))) (rfl)).mono ?_); rintro e f4w ⟨rfl, Hf4⟩))
    have HSE := Lib.hid (Hf4.out.drop.drop)
    clear Hf1 Hf2 Hf3 Hf4 HSB HSA
    obtain ⟨p0, p1, p2, p3, p4, p5, p6, p7, p8, p9⟩ := HKK.out _ _ HSE.out
    have HSF := Lib.hid (HSE.out.kept (below_drew _))
    go_wp2_with fail
    go_region_held3 (fun w' => w'.cell? ⟨w.heap.size, 0, none⟩ = some (.bool s0) ∧ w'.cell? ⟨w.heap.size, 1, none⟩ = some (.slice a0 xs0.length c0) ∧ w'.cell? ⟨w.heap.size, 2, none⟩ = some (.slice b0 ds0.length e0) ∧ w'.cell? ⟨w.heap.size + 1, 0, none⟩ = some (.bool s1) ∧ w'.cell? ⟨w.heap.size + 1, 1, none⟩ = some (.slice a1 xs1.length c1) ∧ w'.cell? ⟨w.heap.size + 1, 2, none⟩ = some (.slice b1 ds1.length e1) ∧ w'.cell? ⟨w.heap.size + 1 + 1, 0, none⟩ = some (.bool s2) ∧ w'.cell? ⟨w.heap.size + 1 + 1, 1, none⟩ = some (.slice a2 xs2.length c2) ∧ w'.cell? ⟨w.heap.size + 1 + 1, 2, none⟩ = some (.slice b2 ds2.length e2) ∧ w'.cell? ⟨w5.heap.size + 1, 0, none⟩ = some (.pointer (some ⟨w5.heap.size, 0, none⟩))) (first | exact HKK.out _ _ Hfr10.out | exact HKK.out _ _ Hfr9.out | exact HKK.out _ _ Hfr8.out | exact HKK.out _ _ Hfr7.out | exact HKK.out _ _ Hfr6.out | exact HKK.out _ _ Hfr5.out | exact HKK.out _ _ Hfr4.out | exact HKK.out _ _ Hfr3.out | exact HKK.out _ _ Hfr2.out | exact HKK.out _ _ Hfr1.out | go_keep)
        (first
          | (go_at_call 27; (with_reducible refine (HSF.out.cmp (mem0) (memS (mem0)) (HC.out)).mono ?_); rintro e fr1w ⟨rfl, Hfr1⟩)
          | (go_at_call 49; (with_reducible refine (rulesAdd Hfr1.out (mem0) (memS (memS (mem0))) (rfl) HSIZ.out.2.2.2.2.2.2.1 (le1000 HSIZ.out.2.2.2.2.2.2.1)).mono ?_); rintro e fr2w ⟨fr2s, fr2a, fr2l, fr2c, fr2b, fr2k, fr2e, rfl, Hfr2⟩)
          | (go_at_call 49; (with_reducible refine (rulesAdd Hfr2.out (memS (memS (mem0))) (memS (memS (memS (mem0)))) (rfl) HSIZ.out.2.1 (le1000 HSIZ.out.2.1)).mono ?_); rintro e fr3w ⟨fr3s, fr3a, fr3l, fr3c, fr3b, fr3k, fr3e, rfl, Hfr3⟩)
          | (go_at_call 27; (with_reducible refine (Hfr3.out.cmp (memS (mem0)) (mem0) (HADD.out.trans HC.out)).mono ?_); rintro e fr4w ⟨rfl, Hfr4⟩)
          | (go_at_call 27; (with_reducible refine (Hfr4.out.cmp (memS (memS (mem0))) (memS (memS (memS (mem0)))) (HC.out)).mono ?_); rintro e fr5w ⟨rfl, Hfr5⟩)
          | (go_at_call 27; (with_reducible refine (Hfr5.out.cmp (memS (memS (memS (mem0)))) (memS (memS (mem0))) (HD.out)).mono ?_); rintro e fr6w ⟨rfl, Hfr6⟩)
          | (go_at_call 27; (with_reducible refine (Hfr6.out.cmp (memS (memS (mem0))) (memS (memS (memS (mem0)))) (HC.out)).mono ?_); rintro e fr7w ⟨rfl, Hfr7⟩)
          | (go_at_call 19; (with_reducible refine (Hfr7.out.sub (memS (memS (mem0))) (memS (memS (memS (mem0)))) (rfl) HSIZ.out.2.2.2.2.2.2.2 (le1000 HSIZ.out.2.2.2.2.2.2.2)).mono ?_); rintro e fr8w ⟨fr8s, fr8a, fr8l, fr8c, fr8b, fr8k, fr8e, rfl, Hfr8⟩)
          | (go_at_call 29; (with_reducible refine (Hfr8.out.sign (mem0) (HSUB.out.trans HC.out)).mono ?_); rintro e fr9w ⟨rfl, Hfr9⟩)
          | (go_at_call 43; (with_reducible refine (Hfr9.out.over).mono ?_); rintro e fr10w ⟨rfl, Hfr10⟩))
    have HE := Lib.hid Hfr10.out.below
    clear Hfr1 Hfr2 Hfr3 Hfr4 Hfr5 Hfr6 Hfr7 Hfr8 Hfr9 Hfr10 HSF HSE HKK HSIZ
    go_wp2_with fail
    go_ret
    exact ⟨rfl, HE.out⟩
  · have HRS := Lib.hid hz
    clear hz
    go_wp2_with fail
    refine wp_region_held_drew (S := (fun w' => w'.cell? ⟨w.heap.size, 0, none⟩ = some (.bool s0) ∧ w'.cell? ⟨w.heap.size, 1, none⟩ = some (.slice a0 xs0.length c0) ∧ w'.cell? ⟨w.heap.size, 2, none⟩ = some (.slice b0 ds0.length e0) ∧ w'.cell? ⟨w.heap.size + 1, 0, none⟩ = some (.bool s1) ∧ w'.cell? ⟨w.heap.size + 1, 1, none⟩ = some (.slice a1 xs1.length c1) ∧ w'.cell? ⟨w.heap.size + 1, 2, none⟩ = some (.slice b1 ds1.length e1) ∧ w'.cell? ⟨w.heap.size + 1 + 1, 0, none⟩ = some (.bool s2) ∧ w'.cell? ⟨w.heap.size + 1 + 1, 1, none⟩ = some (.slice a2 xs2.length c2) ∧ w'.cell? ⟨w.heap.size + 1 + 1, 2, none⟩ = some (.slice b2 ds2.length e2) ∧ w'.cell? ⟨w5.heap.size + 1, 0, none⟩ = some (.pointer (some ⟨w5.heap.size, 0, none⟩)))) (by kernel_rfl) ?_ (fun hHeld => ?_)
    · exact ⟨p0, p1, p2, p3, p4, p5, p6, p7, p8, p9⟩
    refine wpAnyH_take (i := 0) (v := ?_) (by rfl) (by kernel_rfl) (by kernel_rfl) (by kernel_rfl) (by exact fun _ _ _ h => h) (Or.inl ⟨by rfl, ?_⟩) hHeld ?_
    rotate_left 1
    · intro w' hSw
      go_simp
      try with_reducible rfl
    try simp only [Act.put, List.setIfInBounds_toArray, List.set_cons_zero, List.set_cons_succ, List.getElem_toArray, List.getElem_cons_zero, List.getElem_cons_succ]
    refine wpAnyH_ready (rs := [1]) (by kernel_rfl) (by simp) ?_
    refine AllReadyH.cons (by rfl) (fun K hK => ?_) AllReadyH.nil
    go_simp
    refine (HSB.out.sign (memS (mem0)) (HRS.out)).mono ?_
    rintro e e1w ⟨rfl, He1⟩
    refine hK.out _ _ ?_ (fun hHeld => ?_)
    · exact HKK.out _ _ He1.out
    clear hK K
    try simp only [Act.put, List.setIfInBounds_toArray, List.set_cons_zero, List.set_cons_succ, List.getElem_toArray, List.getElem_cons_zero, List.getElem_cons_succ]
    refine wpAnyH_take (i := 2) (v := ?_) (by rfl) (by kernel_rfl) (by kernel_rfl) (by kernel_rfl) (by exact fun _ _ _ h => h) (Or.inl ⟨by rfl, ?_⟩) hHeld ?_
    rotate_left 1
    · intro w' hSw
      go_simp
      try with_reducible rfl
    try simp only [Act.put, List.setIfInBounds_toArray, List.set_cons_zero, List.set_cons_succ, List.getElem_toArray, List.getElem_cons_zero, List.getElem_cons_succ]
    refine wpAnyH_take (i := 3) (v := ?_) (by rfl) (by kernel_rfl) (by kernel_rfl) (by kernel_rfl) (by exact fun _ _ _ h => h) (Or.inl ⟨by rfl, ?_⟩) hHeld ?_
    rotate_left 1
    · intro w' hSw
      go_simp
      try with_reducible rfl
    try simp only [Act.put, List.setIfInBounds_toArray, List.set_cons_zero, List.set_cons_succ, List.getElem_toArray, List.getElem_cons_zero, List.getElem_cons_succ]
    refine wpAnyH_take (i := 4) (v := undef) (by rfl) (by kernel_rfl) (by kernel_rfl) (by kernel_rfl) (by exact fun _ _ _ h => h) (Or.inr ⟨by rfl, rfl⟩) hHeld ?_
    try simp only [Act.put, List.setIfInBounds_toArray, List.set_cons_zero, List.set_cons_succ, List.getElem_toArray, List.getElem_cons_zero, List.getElem_cons_succ]
    refine wpAnyH_take (i := 5) (v := undef) (by rfl) (by kernel_rfl) (by kernel_rfl) (by kernel_rfl) (by exact fun _ _ _ h => h) (Or.inr ⟨by rfl, rfl⟩) hHeld ?_
    try simp only [Act.put, List.setIfInBounds_toArray, List.set_cons_zero, List.set_cons_succ, List.getElem_toArray, List.getElem_cons_zero, List.getElem_cons_succ]
    refine wpAnyH_take (i := 6) (v := undef) (by rfl) (by kernel_rfl) (by kernel_rfl) (by kernel_rfl) (by exact fun _ _ _ h => h) (Or.inr ⟨by rfl, rfl⟩) hHeld ?_
    try simp only [Act.put, List.setIfInBounds_toArray, List.set_cons_zero, List.set_cons_succ, List.getElem_toArray, List.getElem_cons_zero, List.getElem_cons_succ]
    refine wpAnyH_take (i := 7) (v := undef) (by rfl) (by kernel_rfl) (by kernel_rfl) (by kernel_rfl) (by exact fun _ _ _ h => h) (Or.inr ⟨by rfl, rfl⟩) hHeld ?_
    try simp only [Act.put, List.setIfInBounds_toArray, List.set_cons_zero, List.set_cons_succ, List.getElem_toArray, List.getElem_cons_zero, List.getElem_cons_succ]
    refine wpAnyH_take (i := 9) (v := undef) (by rfl) (by kernel_rfl) (by kernel_rfl) (by kernel_rfl) (by exact fun _ _ _ h => h) (Or.inr ⟨by rfl, rfl⟩) hHeld ?_
    try simp only [Act.put, List.setIfInBounds_toArray, List.set_cons_zero, List.set_cons_succ, List.getElem_toArray, List.getElem_cons_zero, List.getElem_cons_succ]
    refine wpAnyH_take (i := 11) (v := undef) (by rfl) (by kernel_rfl) (by kernel_rfl) (by kernel_rfl) (by exact fun _ _ _ h => h) (Or.inr ⟨by rfl, rfl⟩) hHeld ?_
    try simp only [Act.put, List.setIfInBounds_toArray, List.set_cons_zero, List.set_cons_succ, List.getElem_toArray, List.getElem_cons_zero, List.getElem_cons_succ]
    first
      | (refine wpAnyH_take (i := 8) (v := undef) (by rfl) (by kernel_rfl) (by kernel_rfl) (by kernel_rfl) (by exact fun _ _ _ h => h) (Or.inr ⟨by rfl, rfl⟩) hHeld ?_; try simp only [Act.put, List.setIfInBounds_toArray, List.set_cons_zero, List.set_cons_succ, List.getElem_toArray, List.getElem_cons_zero, List.getElem_cons_succ])
      | (refine wpAnyH_ready (rs := [8]) (by kernel_rfl) (by simp) ?_; refine AllReadyH.cons (by rfl) (fun K hK => ?_) AllReadyH.nil; refine skip_it (by rfl) ?_; refine hK.out _ _ hHeld (fun hHeld => ?_); clear hK K; try simp only [Act.put, List.setIfInBounds_toArray, List.set_cons_zero, List.set_cons_succ, List.getElem_toArray, List.getElem_cons_zero, List.getElem_cons_succ])
    first
      | (refine wpAnyH_take (i := 10) (v := undef) (by rfl) (by kernel_rfl) (by kernel_rfl) (by kernel_rfl) (by exact fun _ _ _ h => h) (Or.inr ⟨by rfl, rfl⟩) hHeld ?_; try simp only [Act.put, List.setIfInBounds_toArray, List.set_cons_zero, List.set_cons_succ, List.getElem_toArray, List.getElem_cons_zero, List.getElem_cons_succ])
      | (refine wpAnyH_ready (rs := [10]) (by kernel_rfl) (by simp) ?_; refine AllReadyH.cons (by rfl) (fun K hK => ?_) AllReadyH.nil; refine skip_it (by rfl) ?_; refine hK.out _ _ hHeld (fun hHeld => ?_); clear hK K; try simp only [Act.put, List.setIfInBounds_toArray, List.set_cons_zero, List.set_cons_succ, List.getElem_toArray, List.getElem_cons_zero, List.getElem_cons_succ])
    first
      | (refine wpAnyH_take (i := 12) (v := undef) (by rfl) (by kernel_rfl) (by kernel_rfl) (by kernel_rfl) (by exact fun _ _ _ h => h) (Or.inr ⟨by rfl, rfl⟩) hHeld ?_; try simp only [Act.put, List.setIfInBounds_toArray, List.set_cons_zero, List.set_cons_succ, List.getElem_toArray, List.getElem_cons_zero, List.getElem_cons_succ])
      | (refine wpAnyH_ready (rs := [12]) (by kernel_rfl) (by simp) ?_; refine AllReadyH.cons (by rfl) (fun K hK => ?_) AllReadyH.nil; refine skip_it (by rfl) ?_; refine hK.out _ _ hHeld (fun hHeld => ?_); clear hK K; try simp only [Act.put, List.setIfInBounds_toArray, List.set_cons_zero, List.set_cons_succ, List.getElem_toArray, List.getElem_cons_zero, List.getElem_cons_succ])
    first
      | (refine wpAnyH_take (i := 13) (v := undef) (by rfl) (by kernel_rfl) (by kernel_rfl) (by kernel_rfl) (by exact fun _ _ _ h => h) (Or.inr ⟨by rfl, rfl⟩) hHeld ?_; try simp only [Act.put, List.setIfInBounds_toArray, List.set_cons_zero, List.set_cons_succ, List.getElem_toArray, List.getElem_cons_zero, List.getElem_cons_succ])
      | (refine wpAnyH_ready (rs := [13]) (by kernel_rfl) (by simp) ?_; refine AllReadyH.cons (by rfl) (fun K hK => ?_) AllReadyH.nil; refine skip_it (by rfl) ?_; refine hK.out _ _ hHeld (fun hHeld => ?_); clear hK K; try simp only [Act.put, List.setIfInBounds_toArray, List.set_cons_zero, List.set_cons_succ, List.getElem_toArray, List.getElem_cons_zero, List.getElem_cons_succ])
    refine wpAnyH_take (i := 14) (v := ?_) (by rfl) (by kernel_rfl) (by kernel_rfl) (by kernel_rfl) (by exact fun _ _ _ h => h) (Or.inl ⟨by rfl, ?_⟩) hHeld ?_
    rotate_left 1
    · intro w' hSw
      go_simp
      try with_reducible rfl
    try simp only [Act.put, List.setIfInBounds_toArray, List.set_cons_zero, List.set_cons_succ, List.getElem_toArray, List.getElem_cons_zero, List.getElem_cons_succ]
    refine wpAnyH_done (by kernel_rfl) ?_ _
    clear hHeld
    have HSE := Lib.hid (He1.out)
    clear He1 HSB HSA
    obtain ⟨p0, p1, p2, p3, p4, p5, p6, p7, p8, p9⟩ := HKK.out _ _ HSE.out
    have HSF := Lib.hid (HSE.out.kept (below_drew _))
    go_wp2_with fail
    go_region_held3 (fun w' => w'.cell? ⟨w.heap.size, 0, none⟩ = some (.bool s0) ∧ w'.cell? ⟨w.heap.size, 1, none⟩ = some (.slice a0 xs0.length c0) ∧ w'.cell? ⟨w.heap.size, 2, none⟩ = some (.slice b0 ds0.length e0) ∧ w'.cell? ⟨w.heap.size + 1, 0, none⟩ = some (.bool s1) ∧ w'.cell? ⟨w.heap.size + 1, 1, none⟩ = some (.slice a1 xs1.length c1) ∧ w'.cell? ⟨w.heap.size + 1, 2, none⟩ = some (.slice b1 ds1.length e1) ∧ w'.cell? ⟨w.heap.size + 1 + 1, 0, none⟩ = some (.bool s2) ∧ w'.cell? ⟨w.heap.size + 1 + 1, 1, none⟩ = some (.slice a2 xs2.length c2) ∧ w'.cell? ⟨w.heap.size + 1 + 1, 2, none⟩ = some (.slice b2 ds2.length e2) ∧ w'.cell? ⟨w5.heap.size + 1, 0, none⟩ = some (.pointer (some ⟨w5.heap.size, 0, none⟩))) (first | exact HKK.out _ _ Her10.out | exact HKK.out _ _ Her9.out | exact HKK.out _ _ Her8.out | exact HKK.out _ _ Her7.out | exact HKK.out _ _ Her6.out | exact HKK.out _ _ Her5.out | exact HKK.out _ _ Her4.out | exact HKK.out _ _ Her3.out | exact HKK.out _ _ Her2.out | exact HKK.out _ _ Her1.out | go_keep)
        (first
          | (go_at_call 27; (with_reducible refine (HSF.out.cmp (mem0) (memS (mem0)) (HC.out)).mono ?_); rintro e er1w ⟨rfl, Her1⟩)
          | (go_at_call 49; (with_reducible refine (rulesAdd Her1.out (mem0) (memS (memS (mem0))) (rfl) HSIZ.out.2.2.2.2.2.2.1 (le1000 HSIZ.out.2.2.2.2.2.2.1)).mono ?_); rintro e er2w ⟨er2s, er2a, er2l, er2c, er2b, er2k, er2e, rfl, Her2⟩)
          | (go_at_call 49; (with_reducible refine (rulesAdd Her2.out (memS (memS (mem0))) (memS (memS (memS (mem0)))) (rfl) HSIZ.out.2.1 (le1000 HSIZ.out.2.1)).mono ?_); rintro e er3w ⟨er3s, er3a, er3l, er3c, er3b, er3k, er3e, rfl, Her3⟩)
          | (go_at_call 27; (with_reducible refine (Her3.out.cmp (memS (mem0)) (mem0) (HADD.out.trans HC.out)).mono ?_); rintro e er4w ⟨rfl, Her4⟩)
          | (go_at_call 27; (with_reducible refine (Her4.out.cmp (memS (memS (mem0))) (memS (memS (memS (mem0)))) (HC.out)).mono ?_); rintro e er5w ⟨rfl, Her5⟩)
          | (go_at_call 27; (with_reducible refine (Her5.out.cmp (memS (memS (memS (mem0)))) (memS (memS (mem0))) (HD.out)).mono ?_); rintro e er6w ⟨rfl, Her6⟩)
          | (go_at_call 27; (with_reducible refine (Her6.out.cmp (memS (memS (mem0))) (memS (memS (memS (mem0)))) (HC.out)).mono ?_); rintro e er7w ⟨rfl, Her7⟩)
          | (go_at_call 19; (with_reducible refine (Her7.out.sub (memS (memS (mem0))) (memS (memS (memS (mem0)))) (rfl) HSIZ.out.2.2.2.2.2.2.2 (le1000 HSIZ.out.2.2.2.2.2.2.2)).mono ?_); rintro e er8w ⟨er8s, er8a, er8l, er8c, er8b, er8k, er8e, rfl, Her8⟩)
          | (go_at_call 29; (with_reducible refine (Her8.out.sign (mem0) (HSUB.out.trans HC.out)).mono ?_); rintro e er9w ⟨rfl, Her9⟩)
          | (go_at_call 43; (with_reducible refine (Her9.out.over).mono ?_); rintro e er10w ⟨rfl, Her10⟩))
    have HE := Lib.hid Her10.out.below
    clear Her1 Her2 Her3 Her4 Her5 Her6 Her7 Her8 Her9 Her10 HSF HSE HKK HSIZ
    go_wp2_with fail
    go_ret
    exact ⟨rfl, HE.out⟩
  · have HDV : Hid (x * y / y = x) := Lib.hid (mul_div_q (fun e => by rw [e] at hz; revert hz; unfold cmpQ; rw [if_neg Rat.lt_irrefl, if_pos rfl]; decide))
    have HRS := Lib.hid hz
    clear hz
    go_wp2_with fail
    go_region_held3 (fun w' => w'.cell? ⟨w.heap.size, 0, none⟩ = some (.bool s0) ∧ w'.cell? ⟨w.heap.size, 1, none⟩ = some (.slice a0 xs0.length c0) ∧ w'.cell? ⟨w.heap.size, 2, none⟩ = some (.slice b0 ds0.length e0) ∧ w'.cell? ⟨w.heap.size + 1, 0, none⟩ = some (.bool s1) ∧ w'.cell? ⟨w.heap.size + 1, 1, none⟩ = some (.slice a1 xs1.length c1) ∧ w'.cell? ⟨w.heap.size + 1, 2, none⟩ = some (.slice b1 ds1.length e1) ∧ w'.cell? ⟨w.heap.size + 1 + 1, 0, none⟩ = some (.bool s2) ∧ w'.cell? ⟨w.heap.size + 1 + 1, 1, none⟩ = some (.slice a2 xs2.length c2) ∧ w'.cell? ⟨w.heap.size + 1 + 1, 2, none⟩ = some (.slice b2 ds2.length e2) ∧ w'.cell? ⟨w5.heap.size + 1, 0, none⟩ = some (.pointer (some ⟨w5.heap.size, 0, none⟩))) (first | exact HKK.out _ _ Hh4.out | exact HKK.out _ _ Hh3.out | exact HKK.out _ _ Hh2.out | exact HKK.out _ _ Hh1.out | go_keep)
        (first
          | (go_at_call 29; (with_reducible refine (HSB.out.sign (memS (mem0)) (HRS.out)).mono ?_); rintro e h1w ⟨rfl, Hh1⟩)
          | (go_at_call 50; (with_reducible refine (rulesMul Hh1.out (mem0) (memS (mem0)) (rfl) HSIZ.out.2.2.1 (le1000 HSIZ.out.2.2.1)).mono ?_); rintro e h2w ⟨h2s, h2a, h2l, h2c, h2b, h2k, h2e, rfl, Hh2⟩)
          | (go_at_call 25; (with_reducible refine (Hh2.out.div (mem0) (memS (memS (mem0))) (HDV.out) HSIZ.out.2.2.2.2.2.1 (le1000 HSIZ.out.2.2.2.2.2.1)).mono ?_); rintro e h3w ⟨h3s, h3a, h3l, h3c, h3b, h3k, h3e, rfl, Hh3⟩)
          | (go_at_call 31; (with_reducible refine (Hh3.out.same (mem0) (memS (memS (mem0))) (rfl)).mono ?_); rintro e h4w ⟨rfl, Hh4⟩))
    have HSE := Lib.hid (Hh4.out.drop.drop)
    clear Hh1 Hh2 Hh3 Hh4 HSB HSA
    obtain ⟨p0, p1, p2, p3, p4, p5, p6, p7, p8, p9⟩ := HKK.out _ _ HSE.out
    have HSF := Lib.hid (HSE.out.kept (below_drew _))
    go_wp2_with fail
    go_region_held3 (fun w' => w'.cell? ⟨w.heap.size, 0, none⟩ = some (.bool s0) ∧ w'.cell? ⟨w.heap.size, 1, none⟩ = some (.slice a0 xs0.length c0) ∧ w'.cell? ⟨w.heap.size, 2, none⟩ = some (.slice b0 ds0.length e0) ∧ w'.cell? ⟨w.heap.size + 1, 0, none⟩ = some (.bool s1) ∧ w'.cell? ⟨w.heap.size + 1, 1, none⟩ = some (.slice a1 xs1.length c1) ∧ w'.cell? ⟨w.heap.size + 1, 2, none⟩ = some (.slice b1 ds1.length e1) ∧ w'.cell? ⟨w.heap.size + 1 + 1, 0, none⟩ = some (.bool s2) ∧ w'.cell? ⟨w.heap.size + 1 + 1, 1, none⟩ = some (.slice a2 xs2.length c2) ∧ w'.cell? ⟨w.heap.size + 1 + 1, 2, none⟩ = some (.slice b2 ds2.length e2) ∧ w'.cell? ⟨w5.heap.size + 1, 0, none⟩ = some (.pointer (some ⟨w5.heap.size, 0, none⟩))) (first | exact HKK.out _ _ Hhr10.out | exact HKK.out _ _ Hhr9.out | exact HKK.out _ _ Hhr8.out | exact HKK.out _ _ Hhr7.out | exact HKK.out _ _ Hhr6.out | exact HKK.out _ _ Hhr5.out | exact HKK.out _ _ Hhr4.out | exact HKK.out _ _ Hhr3.out | exact HKK.out _ _ Hhr2.out | exact HKK.out _ _ Hhr1.out | go_keep)
        (first
          | (go_at_call 27; (with_reducible refine (HSF.out.cmp (mem0) (memS (mem0)) (HC.out)).mono ?_); rintro e hr1w ⟨rfl, Hhr1⟩)
          | (go_at_call 49; (with_reducible refine (rulesAdd Hhr1.out (mem0) (memS (memS (mem0))) (rfl) HSIZ.out.2.2.2.2.2.2.1 (le1000 HSIZ.out.2.2.2.2.2.2.1)).mono ?_); rintro e hr2w ⟨hr2s, hr2a, hr2l, hr2c, hr2b, hr2k, hr2e, rfl, Hhr2⟩)
          | (go_at_call 49; (with_reducible refine (rulesAdd Hhr2.out (memS (memS (mem0))) (memS (memS (memS (mem0)))) (rfl) HSIZ.out.2.1 (le1000 HSIZ.out.2.1)).mono ?_); rintro e hr3w ⟨hr3s, hr3a, hr3l, hr3c, hr3b, hr3k, hr3e, rfl, Hhr3⟩)
          | (go_at_call 27; (with_reducible refine (Hhr3.out.cmp (memS (mem0)) (mem0) (HADD.out.trans HC.out)).mono ?_); rintro e hr4w ⟨rfl, Hhr4⟩)
          | (go_at_call 27; (with_reducible refine (Hhr4.out.cmp (memS (memS (mem0))) (memS (memS (memS (mem0)))) (HC.out)).mono ?_); rintro e hr5w ⟨rfl, Hhr5⟩)
          | (go_at_call 27; (with_reducible refine (Hhr5.out.cmp (memS (memS (memS (mem0)))) (memS (memS (mem0))) (HD.out)).mono ?_); rintro e hr6w ⟨rfl, Hhr6⟩)
          | (go_at_call 27; (with_reducible refine (Hhr6.out.cmp (memS (memS (mem0))) (memS (memS (memS (mem0)))) (HC.out)).mono ?_); rintro e hr7w ⟨rfl, Hhr7⟩)
          | (go_at_call 19; (with_reducible refine (Hhr7.out.sub (memS (memS (mem0))) (memS (memS (memS (mem0)))) (rfl) HSIZ.out.2.2.2.2.2.2.2 (le1000 HSIZ.out.2.2.2.2.2.2.2)).mono ?_); rintro e hr8w ⟨hr8s, hr8a, hr8l, hr8c, hr8b, hr8k, hr8e, rfl, Hhr8⟩)
          | (go_at_call 29; (with_reducible refine (Hhr8.out.sign (mem0) (HSUB.out.trans HC.out)).mono ?_); rintro e hr9w ⟨rfl, Hhr9⟩)
          | (go_at_call 43; (with_reducible refine (Hhr9.out.over).mono ?_); rintro e hr10w ⟨rfl, Hhr10⟩))
    have HE := Lib.hid Hhr10.out.below
    clear Hhr1 Hhr2 Hhr3 Hhr4 Hhr5 Hhr6 Hhr7 Hhr8 Hhr9 Hhr10 HSF HSE HKK HSIZ
    go_wp2_with fail
    go_ret
    exact ⟨rfl, HE.out⟩
end Go.Proofs.YtomoemgoglghlaaGreatDoor
