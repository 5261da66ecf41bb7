/- By program out of: RatCut, RatDec, RatSpk, RatOver. -/
import Derived.Test.YtomoemgoglghlaaGreatDoorMnckppd
import Derived.Test.YtomoemgoglghlaaGreatDoorMjkhmcj
import Derived.Lib.CutLaws
/-
  strings.Cut at a point.
-/
set_option linter.unusedVariables false
set_option linter.unusedSimpArgs false
namespace Go.Proofs.YtomoemgoglghlaaGreatDoor
open Go.RowKit Rep

/-- Where the first point stands; -1: nowhere. -/
def ptI (l : List UInt8) : Int := Lib.indexByte l 46
theorem ptI_cases (l : List UInt8) : (ptI l = -1 ∧ (46 : UInt8) ∉ l) ∨ ∃ i : Nat, ptI l = i ∧ i < l.length ∧ l[i]? = some 46 ∧ (46 : UInt8) ∉ l.take i := by
  induction l with
  | nil => exact .inl ⟨rfl, by simp⟩
  | cons b l ih =>
    unfold ptI at ih ⊢
    simp only [Lib.indexByte]
    by_cases h : b = 46
    · subst h
      exact .inr ⟨0, rfl, by simp, rfl, by simp⟩
    · have hb : (b == 46) = false := by simpa using h
      rw [hb]
      rcases ih with ⟨e, hn⟩ | ⟨i, e, hl, hi, hn⟩
      · rw [e]; exact .inl ⟨rfl, by simp [hn, Ne.symm h]⟩
      · refine .inr ⟨i + 1, ?_, by simpa using hl, by simpa using hi, ?_⟩
        · rw [e]
          have : ((i : Int) == -1) = false := by simp
          rw [this]
          simp
        · simp [hn, Ne.symm h]

theorem index_dot (s : ByteArray) (w : World) : Calls Tryz.prog 138 #[.string s, .string ⟨#[46]⟩] w (Gives (.int .i64 (ptI s.data.toList)) w) := by
  have HI := Lib.hid (Tryz.stringslite_IndexByte s 46 w)
  cases hb : ([46] == s.toList)
  · go_enter Tryz.func138, Tryz.ntmps138
    go_wp2_with fail
    refine HI.out.mono ?_
    rintro e w1 ⟨rfl, rfl⟩
    go_wp2_with fail
    go_ret
    exact Gives.mk' rfl
  · have h0 : ptI s.data.toList = 0 := by
      have h1 : s.toList = [46] := by simpa using (beq_iff_eq.1 hb).symm
      rw [ByteArray.toList_eq] at h1
      rw [h1]; rfl
    rw [h0]
    clear h0
    go_enter Tryz.func138, Tryz.ntmps138
    go_wp2_with fail
    go_ret
    exact Gives.mk' rfl

/-- What stands ahead of the point, and behind it. -/
def cutA (l : List UInt8) : List UInt8 := if ptI l = -1 then l else l.take (ptI l).toNat
def cutZ (l : List UInt8) : List UInt8 := if ptI l = -1 then [] else l.drop ((ptI l).toNat + 1)
theorem bx_data (s : ByteArray) : strOf s.data.toList = s := by cases s; simp [strOf]

set_option maxRecDepth 100000 in
set_option maxHeartbeats 1000000 in
theorem cut_dot (s : ByteArray) (w : World) (hs : s.size ≤ 1073741824) : Calls Tryz.prog 118 #[.string s, .string ⟨#[46]⟩] w (Draws (.tuple #[.string (strOf (cutA s.data.toList)), .string (strOf (cutZ s.data.toList)), .bool (decide (ptI s.data.toList ≠ -1))]) w) := by
  have HI := Lib.hid (index_dot s w)
  rcases ptI_cases s.data.toList with ⟨e, _⟩ | ⟨i, e, hl, hi, _⟩
  · have e1 : strOf (cutA s.data.toList) = s := by unfold cutA; rw [if_pos e, bx_data]
    have e2 : strOf (cutZ s.data.toList) = ⟨#[]⟩ := by unfold cutZ; rw [if_pos e]; rfl
    rw [e1, e2, e]
    rw [e] at HI
    clear e e1 e2
    go_enter Tryz.func118, Tryz.ntmps118
    go_wp2_with fail
    refine HI.out.mono ?_
    rintro e w1 ⟨rfl, rfl⟩
    go_wp2_with fail
    go_ret3
    exact ⟨rfl, 0, rfl⟩
  · have hl2 : i < s.size := by simpa using hl
    have e1 : strOf (cutA s.data.toList) = s.extract 0 i := by
      unfold cutA; rw [e, if_neg (by omega)]
      apply ByteArray.ext
      refine Array.toList_inj.1 ?_
      simp [strOf, List.extract_eq_take_drop]
    have e2 : strOf (cutZ s.data.toList) = s.extract (i + 1) s.size := by
      unfold cutZ; rw [e, if_neg (by omega)]
      apply ByteArray.ext
      refine Array.toList_inj.1 ?_
      rw [show s.size = s.data.toList.length by simp]
      simp [strOf, List.extract_eq_take_drop]
      rw [List.take_of_length_le (by simp)]
    rw [e1, e2, e]
    rw [e] at HI
    have c1 : (0 : Int) ≤ (i : Int) := by omega
    have c2 : (i : Int) ≤ (s.size : Int) := by omega
    have c3 : (0 : Int) ≤ (i : Int) + 1 := by omega
    have c4 : (i : Int) + 1 ≤ (s.size : Int) := by omega
    have c5 : IntKind.i64.wrap ((i : Int) + 1) = (i : Int) + 1 := IntWalk.i64_in _ (by omega)
    have c6 : ((i : Int) + 1).toNat = i + 1 := by omega
    clear e e1 e2 hl hi
    go_enter Tryz.func118, Tryz.ntmps118
    go_wp2_with fail
    refine HI.out.mono ?_
    rintro e w1 ⟨rfl, rfl⟩
    go_wp2_with fail
    go_quiet (fail)
    go_wp2_with fail
    go_ret3
    exact ⟨by simp, _, rfl⟩
set_option maxRecDepth 100000 in
set_option maxHeartbeats 1000000 in
theorem Cut_any' (s : ByteArray) (w : World) (hs : s.size ≤ 1073741824) : Calls Tryz.prog 99 #[.string s, .string ⟨#[46]⟩] w (Draws (.tuple #[.string (strOf (cutA s.data.toList)), .string (strOf (cutZ s.data.toList)), .bool (decide (ptI s.data.toList ≠ -1))]) w) := by
  have HI := Lib.hid (cut_dot s w hs)
  generalize strOf (cutA s.data.toList) = sa at *
  generalize strOf (cutZ s.data.toList) = sz at *
  generalize decide (ptI s.data.toList ≠ -1) = pt at *
  go_enter Tryz.func99, Tryz.ntmps99
  go_wp2_with fail
  refine HI.out.mono ?_
  rintro e w1 ⟨rfl, nd, rfl⟩
  go_wp2_with fail
  go_ret3
  exact ⟨rfl, nd, rfl⟩
end Go.Proofs.YtomoemgoglghlaaGreatDoor

/-
  ratio.Decimal.
-/
set_option linter.unusedVariables false
set_option linter.unusedSimpArgs false
namespace Go.Proofs.YtomoemgoglghlaaGreatDoor
open Go.RowKit Rep

/-- Do bytes tell a decimal number? -/
def decB (l : List UInt8) : Bool := !(decide (cutA l = []) || (decide (ptI l ≠ -1) && decide (cutZ l = []))) && isDigs (cutA l ++ cutZ l)
/-- The number that they tell. -/
def decQ (l : List UInt8) : Rat := mkQ false (numTxt (cutA l ++ cutZ l)) (10 ^ (cutZ l).length)
/-- What Decimal gives on a bench that isn't over. -/
def GivesDec (b m : Nat) (l : List UInt8) (w : World) (e : Ending) (w' : World) : Prop :=
  (decB l = false ∧ e = .returned (.tuple #[ratV false (.slice none 0 0) (.slice none 0 0), .bool false]) ∧ Below w.heap.size w w') ∨
  (decB l = true ∧ ∃ a1 c1 a2 c2, e = .returned (.tuple #[qV (outQ m (decQ l)) a1 c1 a2 c2, .bool (!ovQ m (decQ l))]) ∧ AtQ w' a1 c1 a2 c2 (outQ m (decQ l)) ∧ Bench w' b m (ovQ m (decQ l)) ∧ w.grownBy w' (some b))

theorem numTxt_zeros (k : Nat) : numTxt (49 :: List.replicate k 48) = 10 ^ k := by
  unfold numTxt
  rw [List.foldl_cons]
  have key : ∀ (k n : Nat), (List.replicate k (48 : UInt8)).foldl (fun n c => 10 * n + (c.toNat - 48)) n = n * 10 ^ k := by
    intro k
    induction k with
    | zero => intro n; simp
    | succ k ih => intro n; rw [List.replicate_succ, List.foldl_cons, ih, Nat.pow_succ]; simp; ac_rfl
  rw [key]
  simp
theorem L_of_dec {n k : Nat} (h : n < 10 ^ k) : (L n).length ≤ k := by rw [L_len]; exact Nat.lt_of_lt_of_le h (Nat.pow_le_pow_left (by omega) k)
theorem L_pow (k : Nat) : (L (10 ^ k)).length ≤ k + 1 := by rw [L_len]; exact Nat.lt_of_le_of_lt (Nat.pow_le_pow_left (by omega) k) (Nat.pow_lt_pow_right (by omega) (by omega))
theorem digs_zeros (k : Nat) (hk : k < 10000) : isDigs (49 :: List.replicate k 48) = true := by
  unfold isDigs
  simp [digB]
  omega

set_option maxRecDepth 100000 in
set_option maxHeartbeats 8000000 in
theorem Decimal_q {b m : Nat} {s : ByteArray} {w : World} (hb : Bench w b m false) (hT : Tab w) (hs : s.size ≤ 9999) :
    Calls Tryz.prog 46 #[.pointer (some ⟨b, 0, none⟩), .string s] w (GivesDec b m s.data.toList w) := by
  obtain ⟨W0, hW0⟩ : ∃ W0, W0 = w.alloc (.cells #[.bool false, .slice none 0 0, .slice none 0 0] 27) := ⟨_, rfl⟩
  have hB0 : Below w.heap.size w W0 := by rw [hW0]; exact (Below.refl _ _).alloc (Nat.le_refl _) _
  have b3 : Blank W0 w.heap.size := by rw [hW0]; exact heap_alloc_new w _
  have hbl := hb.lt
  have HOV := Lib.hid (over_any W0 b m false (hb.kept hB0))
  have HC := Lib.hid ((Cut_any' s W0 (by omega)).mono (R' := fun e w' => e = .returned (.tuple #[.string (strOf (cutA s.data.toList)), .string (strOf (cutZ s.data.toList)), .bool (decide (ptI s.data.toList ≠ -1))]) ∧ Below W0.heap.size W0 w') fun e w' hg => ⟨hg.1, by obtain ⟨_, nd, rfl⟩ := hg; exact Below.drewN' (Below.refl _ _) nd⟩)
  have HW0 := Lib.hid hW0
  have H0 := Lib.hid (And.intro hB0 (And.intro b3 (And.intro hb hT)))
  have hsz : ¬ (10000 : Int) < (s.size : Int) := by omega
  have hsd : decide ((10000 : Int) < (s.size : Int)) = false := decide_eq_false hsz
  have HLA : Hid ((cutA s.data.toList).length + (cutZ s.data.toList).length ≤ s.size) := Lib.hid (by
    unfold cutA cutZ
    split
    · simp
    · simp; omega)
  clear hW0 hB0 b3 hb hT
  generalize s.data.toList = l at *
  obtain ⟨sa, hsa⟩ : ∃ sa, strOf (cutA l) = sa := ⟨_, rfl⟩
  obtain ⟨sz, hsZ⟩ : ∃ sz, strOf (cutZ l) = sz := ⟨_, rfl⟩
  rw [hsa, hsZ] at HC
  have hla : sa.size ≤ 10000 := by rw [← hsa]; show (cutA l).toArray.size ≤ _; simp; have := HLA.out; omega
  have hlz : sz.size ≤ 10000 := by rw [← hsZ]; show (cutZ l).toArray.size ≤ _; simp; have := HLA.out; omega
  have HSA := Lib.hid hsa
  have HSZ := Lib.hid hsZ
  clear hsa hsZ
  generalize hpt : decide (ptI l ≠ -1) = pt at *
  have HPT := Lib.hid hpt
  clear hpt
  have hpl := HLA.out
  have HDA : Hid (sa.toList = cutA l) := Lib.hid (by rw [← HSA.out, ByteArray.toList_eq]; rfl)
  have HDZ : Hid (sz.toList = cutZ l) := Lib.hid (by rw [← HSZ.out, ByteArray.toList_eq]; rfl)
  have HR := Lib.hid (keep3 (show W0.heap[w.heap.size]? = some (.cells #[.bool false, .slice none 0 0, .slice none 0 0] 27 (0, 0)) from H0.out.2.1))
  have HNO : Hid (decB l = false → ∀ W, Below W0.heap.size W0 W → GivesDec b m l w (.returned (.tuple #[ratV false (.slice none 0 0) (.slice none 0 0), .bool false])) (set3 W w.heap.size false (.slice none 0 0) (.slice none 0 0))) := Lib.hid fun h W hW => .inl ⟨h, rfl, set3_below (H0.out.1.trans (hW.mono H0.out.1.size)) (Nat.le_refl _)⟩
  clear hpl
  by_cases hA : cutA l = []
  · have q1 : sa.toList = [] := HDA.out.trans hA
    have q2 : sa.toList.isEmpty = true := by rw [q1]; rfl
    have hno : decB l = false := by unfold decB; rw [decide_eq_true hA]; rfl
    have HN := Lib.hid (HNO.out hno)
    clear hno hA HDA HDZ HNO HPT H0
    go_enter Tryz.func46, Tryz.ntmps46
    go_wp2_with fail
    rw [← HW0.out]
    refine HOV.out.mono ?_
    rintro e w1 ⟨rfl, rfl⟩
    go_wp2_with fail
    refine HC.out.mono ?_
    rintro e w2 ⟨rfl, hb2⟩
    obtain ⟨m0, m1, m2, n0, n1, n2⟩ := HR.out _ hb2
    have HE := Lib.hid (HN.out _ hb2)
    clear hb2 HN HR HC HOV
    go_wp2_with fail
    exact bodyPost_ret (v := .tuple #[ratV false (.slice none 0 0) (.slice none 0 0), .bool false]) (by simp [results, Tryz.results46, go_sem, ratV, m0, m1, m2]) rfl HE.out
  · have hA2 : sa.toList.isEmpty = false := by
      rw [HDA.out]; cases h : cutA l
      · exact absurd h hA
      · rfl
    have hA3 : ¬ sa.toList = [] := by rw [HDA.out]; exact hA
    have HAN := Lib.hid hA
    clear hA
    by_cases hZ : pt = true ∧ cutZ l = []
    · obtain ⟨rfl, hZ⟩ := hZ
      have q1 : sz.toList = [] := HDZ.out.trans hZ
      have q2 : sz.toList.isEmpty = true := by rw [q1]; rfl
      have hno : decB l = false := by unfold decB; rw [HPT.out, decide_eq_true hZ]; simp
      have HN := Lib.hid (HNO.out hno)
      clear hno hZ HDA HDZ HNO HPT H0
      go_enter Tryz.func46, Tryz.ntmps46
      go_wp2_with fail
      rw [← HW0.out]
      refine HOV.out.mono ?_
      rintro e w1 ⟨rfl, rfl⟩
      go_wp2_with fail
      refine HC.out.mono ?_
      rintro e w2 ⟨rfl, hb2⟩
      obtain ⟨m0, m1, m2, n0, n1, n2⟩ := HR.out _ hb2
      have HE := Lib.hid (HN.out _ hb2)
      clear hb2 HN HR HC HOV
      go_wp2_with fail
      exact bodyPost_ret (v := .tuple #[ratV false (.slice none 0 0) (.slice none 0 0), .bool false]) (by simp [results, Tryz.results46, go_sem, ratV, m0, m1, m2]) rfl HE.out
    · have hpz : (pt = false) ∨ (pt = true ∧ sz.toList.isEmpty = false ∧ ¬ sz.toList = []) := by
        cases pt
        · exact .inl rfl
        · have hz : cutZ l ≠ [] := fun c => hZ ⟨rfl, c⟩
          refine .inr ⟨rfl, ?_, by rw [HDZ.out]; exact hz⟩
          rw [HDZ.out]; cases h : cutZ l
          · exact absurd h hz
          · rfl
      have hdec : decB l = isDigs (cutA l ++ cutZ l) := by
        unfold decB
        rw [HPT.out, decide_eq_false HAN.out]
        cases pt
        · rfl
        · rw [decide_eq_false (fun c => hZ ⟨rfl, c⟩)]; rfl
      obtain ⟨st, hst⟩ : ∃ st, sa ++ sz = st := ⟨_, rfl⟩
      have hstl : st.size ≤ 10000 := by rw [← hst, ByteArray.size_append', ← HSA.out, ← HSZ.out]; show (cutA l).toArray.size + (cutZ l).toArray.size ≤ _; simp; have := HLA.out; omega
      have HSD : Hid (st.data.toList = cutA l ++ cutZ l) := Lib.hid (by rw [← hst, ← HSA.out, ← HSZ.out]; simp [strOf, ByteArray.data_append])
      have HP1 : Hid (∀ W t, Bench W t 2147483647 false → Calls Tryz.prog 100 #[.pointer (some ⟨t, 0, none⟩), .string st] W (GivesParse t 2147483647 false (cutA l ++ cutZ l) W)) := Lib.hid fun W t hb => by
        have := Parse_any t 2147483647 st W false hb (by unfold maxLen; omega) (by unfold maxLen; omega)
        rwa [HSD.out] at this
      have HST := Lib.hid hst
      cases hdg : isDigs (cutA l ++ cutZ l)
      · have HN := Lib.hid (HNO.out (hdec.trans hdg))
        have HP : Hid (∀ W t, Bench W t 2147483647 false → Calls Tryz.prog 100 #[.pointer (some ⟨t, 0, none⟩), .string st] W (Gives (.tuple #[.slice none 0 0, .bool false]) W)) := Lib.hid fun W t hb => (HP1.out W t hb).mono fun e W' hg => by
          unfold GivesParse at hg
          rw [hdg] at hg
          exact ⟨hg.1, hg.2.symm⟩
        clear hdec hdg hst HP1 hZ HNO HPT H0 HDA HDZ
        rcases hpz with rfl | ⟨rfl, hz1, hz2⟩
        all_goals
          go_enter Tryz.func46, Tryz.ntmps46
          go_wp2_with fail
          rw [← HW0.out]
          refine HOV.out.mono ?_
          rintro e w1 ⟨rfl, rfl⟩
          go_wp2_with fail
          refine HC.out.mono ?_
          rintro e w2 ⟨rfl, hb2⟩
          obtain ⟨m0, m1, m2, n0, n1, n2⟩ := HR.out _ hb2
          go_wp2_with fail
          refine (unbounded_any w2).mono ?_
          rintro e w3 ⟨rfl, rfl⟩
          have hb3 := hb2.trans ((wayW_below w2).mono hb2.size)
          have HPP := Lib.hid (HP.out _ _ (wayW_bench w2))
          obtain ⟨m0, m1, m2, n0, n1, n2⟩ := HR.out _ hb3
          have HE := Lib.hid (HN.out _ hb3)
          clear hb2 hb3 HN HR HC HOV HP
          go_wp2_with fail
          rw [HST.out]
          refine HPP.out.mono ?_
          rintro e w4 ⟨rfl, rfl⟩
          go_wp2_with fail
          exact bodyPost_ret (v := .tuple #[ratV false (.slice none 0 0) (.slice none 0 0), .bool false]) (by simp [results, Tryz.results46, go_sem, ratV, m0, m1, m2]) rfl HE.out
      · obtain ⟨N, hN⟩ : ∃ N, numTxt (cutA l ++ cutZ l) = N := ⟨_, rfl⟩
        have hNl : (L N).length ≤ 10000 := by
          have h1 := L_of_dec (numTxt_lt (l := cutA l ++ cutZ l) (by have h := hdg; unfold isDigs at h; simp only [Bool.and_eq_true] at h; exact h.2))
          have h2 : (cutA l ++ cutZ l).length ≤ 10000 := by rw [List.length_append]; have := HLA.out; omega
          rw [hN] at h1
          omega
        have hkz : sz.size = (cutZ l).length := by rw [← HSZ.out]; rfl
        have HP : Hid (∀ W t, Bench W t 2147483647 false → Calls Tryz.prog 100 #[.pointer (some ⟨t, 0, none⟩), .string st] W (fun e W' => ∃ a c, e = .returned (.tuple #[.slice a (L N).length c, .bool true]) ∧ NumE W' a (L N).length c N ∧ Below W.heap.size W W')) := Lib.hid fun W t hb => (HP1.out W t hb).mono fun e W' hg => by
          unfold GivesParse at hg
          rw [hdg, hN] at hg
          simp only [Bool.not_false, Bool.and_self, if_true] at hg
          rw [if_pos (by omega)] at hg
          obtain ⟨a, c, he, hn, _, hb⟩ := hg
          exact ⟨a, c, he, NumE.of hn (by omega), hb⟩
        obtain ⟨rp, hrp⟩ : ∃ rp : ByteArray, rp = ⟨(Lib.repeatL [48] sz.size).toArray⟩ := ⟨_, rfl⟩
        have hrps : rp.size ≤ 10000 := by rw [hrp]; show (Lib.repeatL [48] sz.size).toArray.size ≤ _; simp [Lib.repeatL_length]; exact hlz
        have HRP : Hid (∀ W, Calls Tryz.prog 101 #[.string ⟨#[48]⟩, .int .i64 (sz.size : Int)] W (fun e W' => e = .returned (.string rp) ∧ Below W.heap.size W W')) := Lib.hid fun W => by
          rw [hrp]
          exact Tryz.strings_Repeat ⟨#[48]⟩ sz.size W (by omega) (by show 1 * sz.size ≤ _; omega)
        obtain ⟨sd, hsd2⟩ : ∃ sd, (⟨#[49]⟩ : ByteArray) ++ rp = sd := ⟨_, rfl⟩
        have hsdl : sd.data.toList = 49 :: List.replicate (cutZ l).length 48 := by
          have h := Lib.repeatL_replicate (48 : UInt8) 1 sz.size
          rw [← hsd2, hrp]
          simp only [ByteArray.data_append, Array.toList_append]
          rw [show ([48] : List UInt8) = List.replicate 1 48 from rfl, h, Nat.mul_one, hkz]
          rfl
        have hsds : sd.size ≤ 10001 := by rw [← hsd2, ByteArray.size_append']; show 1 + rp.size ≤ _; omega
        have hkl : (cutZ l).length ≤ 9999 := by have := HLA.out; omega
        have hML : (L (10 ^ (cutZ l).length)).length ≤ 10000 := by have := L_pow (cutZ l).length; omega
        have HPS : Hid (∀ W t, Bench W t 2147483647 false → Calls Tryz.prog 100 #[.pointer (some ⟨t, 0, none⟩), .string sd] W (fun e W' => ∃ a c, e = .returned (.tuple #[.slice a (L (10 ^ (cutZ l).length)).length c, .bool true]) ∧ NumE W' a (L (10 ^ (cutZ l).length)).length c (10 ^ (cutZ l).length) ∧ Below W.heap.size W W')) := Lib.hid fun W t hb => (Parse_any t 2147483647 sd W false hb (by unfold maxLen; omega) (by unfold maxLen; omega)).mono fun e W' hg => by
          unfold GivesParse at hg
          rw [hsdl, digs_zeros _ (by omega), numTxt_zeros] at hg
          simp only [Bool.not_false, Bool.and_self, if_true] at hg
          rw [if_pos (by omega)] at hg
          obtain ⟨a, c, he, hn, _, hb⟩ := hg
          exact ⟨a, c, he, NumE.of hn (by omega), hb⟩
        have hpp : 0 < 10 ^ (cutZ l).length := Nat.pow_pos (by omega)
        have hqd : decQ l = mkQ false N (10 ^ (cutZ l).length) := by unfold decQ; rw [hN]
        have hq1 := mkQ_mg false N hpp
        have hq2 := mkQ_den false N hpp
        have hq3 := mkQ_ng false N hpp
        rw [← hqd] at hq1 hq2 hq3
        have HYES := Lib.hid (hdec.trans hdg)
        have HST2 := Lib.hid hsd2
        generalize 10 ^ (cutZ l).length = M at *
        have HM : Hid (∀ W a c a' c', Below W0.heap.size W0 W → NumE W a (L N).length c N → NumE W a' (L M).length c' M → Calls Tryz.prog 42 #[.pointer (some ⟨b, 0, none⟩), .bool false, .slice a (L N).length c, .slice a' (L M).length c'] W (fun e W5 => ∃ (tt : Bool) (x1 : Option Addr) (x2 x3 : Nat) (y1 : Option Addr) (y2 y3 : Nat), e = .returned (.agg #[.bool tt, .slice x1 x2 x3, .slice y1 y2 y3]) ∧ Blank W5 w.heap.size ∧ Bench W5 b m (ovQ m (decQ l)) ∧ W5.heap.size > w.heap.size ∧
            Hid (∀ W6, Below (W5.alloc (.cells #[.bool tt, .slice x1 x2 x3, .slice y1 y2 y3] 27)).heap.size (W5.alloc (.cells #[.bool tt, .slice x1 x2 x3, .slice y1 y2 y3] 27)) W6 →
              GivesDec b m l w (.returned (.tuple #[ratV tt (.slice x1 x2 x3) (.slice y1 y2 y3), .bool (!ovQ m (decQ l))])) (set3 W6 w.heap.size tt (.slice x1 x2 x3) (.slice y1 y2 y3))))) := Lib.hid fun W a c a' c' h h1 h2 => by
          obtain ⟨g1, g2, g3, g4⟩ := H0.out
          have hbw : Below w.heap.size w W := g1.trans (h.mono g1.size)
          refine (Make_any b m false a a' _ c _ c' N M W (g3.kept hbw) h1 h2 (g4.kept hbw) (by omega) (by omega)).mono fun e W5 hg => ?_
          have hq : GivesQ b m (decQ l) W e W5 := hg.q (by rw [hq1]; unfold mkN; rw [if_neg (by omega)]) (by rw [hq2]; unfold mkD; rw [if_neg (by omega)]) (fun hn => by
            rw [hq3]; split <;> rfl)
          obtain ⟨a1, c1, a2, c2, rfl, f1, f3, f4⟩ := hq
          have hbl5 : Blank W5 w.heap.size := (g2.kept h).grown f4 (by omega)
          have hsz5 : w.heap.size < W5.heap.size := (Array.getElem?_eq_some_iff.1 hbl5).1
          refine ⟨_, _, _, _, _, _, _, rfl, hbl5, f3, hsz5, Lib.hid fun W6 h6 => .inr ⟨HYES.out, a1, c1, a2, c2, rfl, ?_, ?_, ?_⟩⟩
          all_goals
            have ha := (Below.refl W5.heap.size W5).alloc (Nat.le_refl _) (.cells #[.bool (ngQ (outQ m (decQ l))), .slice a1 (L (mgQ (outQ m (decQ l)))).length c1, .slice a2 (L (denN (outQ m (decQ l)).den)).length c2] 27)
            have hb6 : Blank W6 w.heap.size := (hbl5.kept ha).kept h6
          · exact ((f1.kept ha).kept h6).set3 hb6.rat _ _ _
          · exact ((f3.kept ha).kept h6).set3 (by omega) _ _ _
          · exact grown_set3 (grownBy_trans_new (grownBy_trans_new (grown_of_below hbw _) f4) (grown_of_below (ha.trans (h6.mono (by simp))) _)) (Nat.le_refl _) _ _ _
        clear hq1 hq2 hq3 hqd hN hdg hdec hpp hML hsdl hkz hrp hst hsd2 HSD HP1 HNO hZ HDA HDZ H0
        rcases hpz with rfl | ⟨rfl, hz1, hz2⟩
        all_goals
          go_enter Tryz.func46, Tryz.ntmps46
          go_wp2_with fail
          rw [← HW0.out]
          refine HOV.out.mono ?_
          rintro e w1 ⟨rfl, rfl⟩
          go_wp2_with fail
          refine HC.out.mono ?_
          rintro e w2 ⟨rfl, hb2⟩
          have HB2 := Lib.hid hb2
          clear hb2 HC HOV
          go_wp2_with fail
          refine (unbounded_any w2).mono ?_
          rintro e w3 ⟨rfl, rfl⟩
          have hb3 := HB2.out.trans ((wayW_below w2).mono HB2.out.size)
          have HPP := Lib.hid (HP.out _ _ (wayW_bench w2))
          have HB3 := Lib.hid (And.intro hb3 (wayW_bench w2))
          clear hb3 HP
          go_wp2_with fail
          rw [HST.out]
          refine HPP.out.mono ?_
          rintro e w4 ⟨a4, c4, rfl, d4, hb4⟩
          have HB4 := Lib.hid (And.intro (HB3.out.1.trans (hb4.mono HB3.out.1.size)) (And.intro d4 (HB3.out.2.kept hb4)))
          clear d4 hb4 HPP HB3 HB2
          go_wp2_with fail
          refine (HRP.out w4).mono ?_
          rintro e w5 ⟨rfl, hb5⟩
          have HB5 := Lib.hid (And.intro (HB4.out.1.trans (hb5.mono HB4.out.1.size)) (And.intro (HB4.out.2.1.kept hb5) (HB4.out.2.2.kept hb5)))
          have HPP := Lib.hid (HPS.out _ _ (HB4.out.2.2.kept hb5))
          clear hb5 HB4 HRP HPS
          go_wp2_with fail
          rw [HST2.out]
          refine HPP.out.mono ?_
          rintro e w6 ⟨a6, c6, rfl, d6, hb6⟩
          have HMM := Lib.hid (HM.out w6 a4 c4 a6 c6 (HB5.out.1.trans (hb6.mono HB5.out.1.size)) (HB5.out.2.1.kept hb6) d6)
          clear d6 hb6 HPP HB5 HM
          go_wp2_with fail
          refine HMM.out.mono ?_
          rintro e w7 ⟨tt, x1, x2, x3, y1, y2, y3, rfl, hbl7, hbe7, hsz7, HE7⟩
          obtain ⟨m0, m1, m2, n0, n1, n2⟩ := hbl7.cells
          have hne7 : w.heap.size ≠ w7.heap.size := by omega
          have hne8 : w7.heap.size ≠ w.heap.size := by omega
          have ha := (Below.refl w7.heap.size w7).alloc (Nat.le_refl _) (.cells #[.bool tt, .slice x1 x2 x3, .slice y1 y2 y3] 27)
          have HOV2 : Hid (∀ W, Below (w7.alloc (.cells #[.bool tt, .slice x1 x2 x3, .slice y1 y2 y3] 27)).heap.size (w7.alloc (.cells #[.bool tt, .slice x1 x2 x3, .slice y1 y2 y3] 27)) W → Calls Tryz.prog 43 #[.pointer (some ⟨b, 0, none⟩)] W (fun e W' => e = .returned (.bool (ovQ m (decQ l))) ∧ Below (w7.alloc (.cells #[.bool tt, .slice x1 x2 x3, .slice y1 y2 y3] 27)).heap.size (w7.alloc (.cells #[.bool tt, .slice x1 x2 x3, .slice y1 y2 y3] 27)) W')) := Lib.hid fun W h => (over_any W b m _ ((hbe7.kept ha).kept h)).mono fun e W' hg => ⟨hg.1, by rw [← hg.2]; exact h⟩
          have HX : Hid (∀ W, Below (w7.alloc (.cells #[.bool tt, .slice x1 x2 x3, .slice y1 y2 y3] 27)).heap.size (w7.alloc (.cells #[.bool tt, .slice x1 x2 x3, .slice y1 y2 y3] 27)) W → (W.cell? ⟨w7.heap.size, 0, none⟩ = some (.bool tt) ∧ W.cell? ⟨w7.heap.size, 1, none⟩ = some (.slice x1 x2 x3) ∧ W.cell? ⟨w7.heap.size, 2, none⟩ = some (.slice y1 y2 y3))) := Lib.hid fun W h => by
            obtain ⟨f0, f1, f2, _⟩ := keep3 (heap_alloc_new w7 (.cells #[.bool tt, .slice x1 x2 x3, .slice y1 y2 y3] 27)) W h
            exact ⟨f0, f1, f2⟩
          have HBL : Hid (∀ W, Below (w7.alloc (.cells #[.bool tt, .slice x1 x2 x3, .slice y1 y2 y3] 27)).heap.size (w7.alloc (.cells #[.bool tt, .slice x1 x2 x3, .slice y1 y2 y3] 27)) W → Blank W w.heap.size) := Lib.hid fun W h => (hbl7.kept ha).kept h
          clear hbl7 hbe7 ha HMM
          generalize ovQ m (decQ l) = ov at *
          go_wp2_with fail
          go_region_held3 (fun w' => w'.cell? ⟨w7.heap.size, 0, none⟩ = some (.bool tt) ∧ w'.cell? ⟨w7.heap.size, 1, none⟩ = some (.slice x1 x2 x3) ∧ w'.cell? ⟨w7.heap.size, 2, none⟩ = some (.slice y1 y2 y3)) (first | exact HX.out _ hb8 | go_keep)
              (first
                | (go_at_call 43; (with_reducible refine (HOV2.out _ (below_drew _)).mono ?_); rintro e w8 ⟨rfl, hb8⟩; have HE := Lib.hid (HE7.out _ hb8); obtain ⟨m0, m1, m2, n0, n1, n2⟩ := (HBL.out _ hb8).cells))
          all_goals
            go_wp2_with fail
            exact bodyPost_ret (v := .tuple #[ratV tt (.slice x1 x2 x3) (.slice y1 y2 y3), .bool (!ov)]) (by simp [results, Tryz.results46, go_sem, ratV, m0, m1, m2]) rfl HE.out
end Go.Proofs.YtomoemgoglghlaaGreatDoor

/-
  The ratio laws' example.
-/
set_option linter.unusedVariables false
set_option linter.unusedSimpArgs false
namespace Go.Proofs.YtomoemgoglghlaaGreatDoor
open Go.RowKit Rep

def exL : List UInt8 := [49, 50, 46, 53, 48]
def exQ : Rat := mkQ false 25 2
theorem exQ_parts : ngQ exQ = false ∧ mgQ exQ = 25 ∧ exQ.den = 2 := by
  obtain ⟨a, b⟩ := mkQ_cop false (n := 25) (d := 2) (by omega) (by decide)
  exact ⟨by unfold exQ; rw [mkQ_ng false 25 (by omega)]; rfl, a, b⟩
theorem ex_dec : decB exL = true ∧ decQ exL = exQ := by
  refine ⟨by decide, ?_⟩
  have h1 : numTxt (cutA exL ++ cutZ exL) = 1250 := by decide
  have h2 : (cutZ exL).length = 2 := by decide
  unfold decQ exQ
  rw [h1, h2]
  exact mkQ_cross false (by omega) (by omega) (by omega)
theorem ex_L : (L 25).length = 1 ∧ (L 2).length = 1 := ⟨by decide, by decide⟩
theorem ex_ov : ovQ 2 exQ = false ∧ outQ 2 exQ = exQ := by
  obtain ⟨a, b, c⟩ := exQ_parts
  have h : ovQ 2 exQ = false := by
    unfold ovQ rO
    rw [b, c]
    decide
  exact ⟨h, by unfold outQ; rw [h]; rfl⟩
theorem ex_text : textQ exQ = ⟨#[50, 53, 47, 50]⟩ := by
  obtain ⟨a, b, c⟩ := exQ_parts
  unfold textQ
  rw [a, b, c]
  decide +kernel
theorem ex_term : termQ (-exQ) = ⟨#[40, 45, 32, 40, 47, 32, 50, 53, 46, 48, 32, 50, 46, 48, 41, 41]⟩ := by
  obtain ⟨a, b, c⟩ := exQ_parts
  have h1 : ngQ (-exQ) = true := by rw [neg_ng, b, a]; rfl
  unfold termQ
  rw [h1, neg_mg, neg_den, b, c]
  decide +kernel
theorem ex_sz : szQ exQ ≤ 10000 ∧ szQ (-exQ) ≤ 10000 := by
  obtain ⟨a, b, c⟩ := exQ_parts
  have h : szQ exQ = 1 := by unfold szQ; rw [b, c]; decide
  have h2 : szQ (-exQ) = szQ exQ := by unfold szQ; rw [neg_mg, neg_den]
  omega

/-- A call tells that it holds. -/
def Says (w : World) (e : Ending) (w' : World) : Prop := e = .returned (.bool true) ∧ Below w.heap.size w w'

set_option maxRecDepth 100000 in
set_option maxHeartbeats 4000000 in
theorem speaks02 {w : World} (hT : Tab w) : Calls Tryz.prog 10 #[] w (Says w) := by
  have hb0 : Below w.heap.size w (w.alloc (.cells #[.int .i64 2, .bool false] 116)) := (Below.refl _ _).alloc (Nat.le_refl _) _
  have HD : Hid (Calls Tryz.prog 46 #[.pointer (some ⟨w.heap.size, 0, none⟩), .string ⟨#[49, 50, 46, 53, 48]⟩] (w.alloc (.cells #[.int .i64 2, .bool false] 116)) (fun e W => ∃ (a1 : Option Addr) (l1 c1 : Nat) (a2 : Option Addr) (l2 c2 : Nat), e = .returned (.tuple #[.agg #[.bool false, .slice a1 l1 c1, .slice a2 l2 c2], .bool true]) ∧ Hid (Below w.heap.size w W ∧
      ∀ W', Below W.heap.size W W' → (Calls Tryz.prog 34 #[.agg #[.bool false, .slice a1 l1 c1, .slice a2 l2 c2]] W' (GivesTx ⟨#[50, 53, 47, 50]⟩ W')) ∧
        (Calls Tryz.prog 32 #[.agg #[.bool false, .slice a1 l1 c1, .slice a2 l2 c2]] W' (fun e W2 => ∃ (t : Bool) (a3 : Option Addr) (l3 c3 : Nat) (a4 : Option Addr) (l4 c4 : Nat), e = .returned (.agg #[.bool t, .slice a3 l3 c3, .slice a4 l4 c4]) ∧ Hid (Below W'.heap.size W' W2 ∧
          Calls Tryz.prog 36 #[.agg #[.bool t, .slice a3 l3 c3, .slice a4 l4 c4]] W2 (GivesTx ⟨#[40, 45, 32, 40, 47, 32, 50, 53, 46, 48, 32, 50, 46, 48, 41, 41]⟩ W2))))))) := Lib.hid (by
    have hbe : Bench (w.alloc (.cells #[.int .i64 2, .bool false] 116)) w.heap.size 2 false := heap_alloc_new w _
    refine (Decimal_q (s := ⟨#[49, 50, 46, 53, 48]⟩) hbe (hT.kept hb0) (by decide)).mono ?_
    intro e W hg
    have hl : (⟨#[49, 50, 46, 53, 48]⟩ : ByteArray).data.toList = exL := rfl
    rw [hl] at hg
    rcases hg with ⟨h1, _⟩ | ⟨_, a1, c1, a2, c2, rfl, hat, hb1, hg1⟩
    · rw [ex_dec.1] at h1; cases h1
    · rw [ex_dec.2, ex_ov.2] at hat ⊢
      rw [ex_ov.1]
      have hbw : Below w.heap.size w W := hb0.grown hg1 (by simp) (fun k hk => by cases hk; exact Nat.le_refl _)
      refine ⟨a1, _, c1, a2, _, c2, by rw [qV, exQ_parts.1]; rfl, Lib.hid ⟨hbw, fun W' h => ?_⟩⟩
      have hat' := hat.kept h
      have ht := Text_q hat' ex_sz.1
      have hn := NegP_q hat' ex_sz.1
      rw [ex_text] at ht
      unfold qV ratV at ht hn
      rw [exQ_parts.1] at ht hn
      refine ⟨ht, hn.mono ?_⟩
      rintro e W2 ⟨a3, c3, a4, c4, rfl, hat2, hb2⟩
      have hm := Term_q hat2 ex_sz.2
      rw [ex_term] at hm
      exact ⟨_, a3, _, c3, a4, _, c4, rfl, Lib.hid ⟨hb2, hm⟩⟩)
  clear hb0 hT
  go_enter Tryz.func10, Tryz.ntmps10
  go_wp2_with fail
  refine (new_high 2 w (by omega) (by unfold maxLen; omega)).mono ?_
  rintro e w' ⟨rfl, rfl⟩
  go_wp2_with fail
  refine HD.out.mono ?_
  rintro e w2 ⟨a1, l1, c1, a2, l2, c2, rfl, HE⟩
  have ha := (Below.refl w2.heap.size w2).alloc (Nat.le_refl _) (.cells #[.bool false, .slice a1 l1 c1, .slice a2 l2 c2] 27)
  have HT := Lib.hid (HE.out.2 _ ha).1
  have HK := Lib.hid (keep3 (heap_alloc_new w2 (.cells #[.bool false, .slice a1 l1 c1, .slice a2 l2 c2] 27)))
  have HA := Lib.hid ha
  clear ha HD
  go_wp2_with fail
  refine HT.out.mono ?_
  rintro e w3 ⟨rfl, hb3⟩
  obtain ⟨m0, m1, m2, n0, n1, n2⟩ := HK.out _ hb3
  have hb23 := HA.out.trans (hb3.mono HA.out.size)
  have HN := Lib.hid (HE.out.2 _ hb23).2
  have HB := Lib.hid (HE.out.1.trans (hb23.mono HE.out.1.size))
  clear hb3 hb23 HT HK HA HE
  go_wp2_with fail
  refine HN.out.mono ?_
  rintro e w4 ⟨t, a3, l3, c3, a4, l4, c4, rfl, HE⟩
  have HM := Lib.hid HE.out.2
  have HB4 := Lib.hid (HB.out.trans (HE.out.1.mono HB.out.size))
  clear HN HB HE
  go_wp2_with fail
  refine HM.out.mono ?_
  rintro e w5 ⟨rfl, hb5⟩
  have HB5 := Lib.hid (HB4.out.trans (hb5.mono HB4.out.size))
  clear hb5 HM HB4
  go_wp2_with fail
  go_ret
  exact ⟨rfl, HB5.out⟩
end Go.Proofs.YtomoemgoglghlaaGreatDoor

/-
  RatioOver: the law's walk.
-/
set_option linter.unusedVariables false
set_option linter.unusedSimpArgs false
namespace Go.Proofs.YtomoemgoglghlaaGreatDoor
open Go.RowKit Rep

set_option maxRecDepth 100000 in
set_option maxHeartbeats 1000000 in
theorem DecQ_over {w : World} {b m : Nat} (hb : Bench w b m true) (s : ByteArray) :
    Calls Tryz.prog 46 #[.pointer (some ⟨b, 0, none⟩), .string s] w fun e w' => e = .returned (.tuple #[.agg #[.bool false, .slice none 0 0, .slice none 0 0], .bool false]) ∧ Below w.heap.size w w' := by
  obtain ⟨W0, hW0⟩ : ∃ W0, W0 = w.alloc (.cells #[.bool false, .slice none 0 0, .slice none 0 0] 27) := ⟨_, rfl⟩
  have hB0 : Below w.heap.size w W0 := by rw [hW0]; exact (Below.refl _ _).alloc (Nat.le_refl _) _
  have b3 : Blank W0 w.heap.size := by rw [hW0]; exact heap_alloc_new w _
  have HOV := Lib.hid (over_any W0 b m true (hb.kept hB0))
  have HW0 := Lib.hid hW0
  have HE := Lib.hid (set3_below (r := w.heap.size) (s := false) (v1 := .slice none 0 0) (v2 := .slice none 0 0) hB0 (Nat.le_refl _))
  obtain ⟨m0, m1, m2, n0, n1, n2⟩ := b3.cells
  clear hW0 hB0 b3 hb
  go_enter Tryz.func46, Tryz.ntmps46
  go_wp2_with fail
  rw [← HW0.out]
  refine HOV.out.mono ?_
  rintro e w1 ⟨rfl, rfl⟩
  go_wp2_with fail
  exact bodyPost_ret (v := .tuple #[.agg #[.bool false, .slice none 0 0, .slice none 0 0], .bool false]) (by simp [results, Tryz.results46, go_sem, m0, m1, m2]) rfl ⟨rfl, HE.out⟩

/-- A ratio that a law is handed. -/
structure HandR (w : World) (a1 : Option Addr) (c1 : Nat) (xs : List Nat) (a2 : Option Addr) (c2 : Nat) (ds : List Nat) : Prop where
  num : Handed w a1 c1 xs
  den : Handed w a2 c2 ds
theorem HandR.kept {w w' : World} {a1 : Option Addr} {c1 : Nat} {xs : List Nat} {a2 : Option Addr} {c2 : Nat} {ds : List Nat} (h : HandR w a1 c1 xs a2 c2 ds) (hb : Below w.heap.size w w') : HandR w' a1 c1 xs a2 c2 ds := ⟨h.num.kept hb, h.den.kept hb⟩
/-- Ratios that aren't great, as raw rows. -/
theorem great_two {s t : Bool} {a1 a2 b1 b2 : Option Addr} {c1 c2 e1 e2 l1 l2 k1 k2 : Nat} (h : greatB [(s, (a1, l1, c1), (a2, l2, c2)), (t, (b1, k1, e1), (b2, k2, e2))] = false) : l1 ≤ 6 ∧ l2 ≤ 6 ∧ k1 ≤ 6 ∧ k2 ≤ 6 := by
  simp [greatB] at h
  omega
theorem RightR_any' {w : World} {s : Bool} {a1 a2 : Option Addr} {c1 c2 : Nat} {xs ds : List Nat} (h : HandR w a1 c1 xs a2 c2 ds) (lx : xs.length ≤ 6) (ld : ds.length ≤ 6) :
    Calls Tryz.prog 12 #[.agg #[.bool s, .slice a1 xs.length c1, .slice a2 ds.length c2]] w (GivesB (rightB s xs ds) w) :=
  RightR_any (h.num.inn (by omega)) (h.den.inn (by omega)) (by omega) (by omega)

/-- A bench that the law makes over. -/
theorem mul5 (w : World) : Calls Tryz.prog 51 #[.pointer (some ⟨w.heap.size, 0, none⟩), .slice (some ⟨w.heap.size + 1, 0, none⟩) 2 2, .slice (some ⟨w.heap.size + 1 + 1, 0, none⟩) 1 1]
    (((w.alloc (.cells #[.int .i64 1, .bool false] 116)).alloc (.cells #[.int .u32 0, .int .u32 1] 66)).alloc (.cells #[.int .u32 5] 66))
    fun e w' => (∃ a l c, e = .returned (.slice a l c)) ∧ Bench w' w.heap.size 1 true ∧ Below w.heap.size w w' := by
  have hb : Bench (((w.alloc (.cells #[.int .i64 1, .bool false] 116)).alloc (.cells #[.int .u32 0, .int .u32 1] 66)).alloc (.cells #[.int .u32 5] 66)) w.heap.size 1 false := by
    have h := (GivesBench.bench (m := 1) (w := w))
    exact (h.of_block (Below.heap_alloc _ _ _ (by simp))).of_block (Below.heap_alloc _ _ _ (by simp; omega))
  have hx := limbs2 (((w.alloc (.cells #[.int .i64 1, .bool false] 116)))) 0 1 (by omega) (by omega)
  have hx2 := hx.kept ((Below.refl _ _).alloc (Nat.le_refl _) (.cells #[.int .u32 5] 66))
  have hy := limbs1 ((w.alloc (.cells #[.int .i64 1, .bool false] 116)).alloc (.cells #[.int .u32 0, .int .u32 1] 66)) 5 (by omega)
  simp only [World.size_alloc] at hx2 hy
  refine (Mul_any w.heap.size 1 _ _ [0, 1] [5] 2 1 _ false hb (by unfold maxLen; omega) hx2 hy).mono ?_
  rintro e w1 ⟨a, c, rfl, hat, hb1, hg⟩
  have hov : outO 1 false (V [0, 1] * V [5]) = true := by
    have : ¬ (L (V [0, 1] * V [5])).length ≤ 1 := fun h => by
      have := (L_len _ _).1 h
      simp [V, Rep.val] at this
    simp only [outO, Bool.false_or]
    exact decide_eq_true (by omega)
  rw [hov] at hb1
  exact ⟨⟨a, _, c, rfl⟩, hb1, ((((Below.refl _ w).alloc (Nat.le_refl _) _).alloc (by simp) _).alloc (by simp; omega) _).grown hg (by simp; omega) (fun k hk => by cases hk; exact Nat.le_refl _)⟩
/-- 0, as the law holds it against others. -/
theorem same_zero (w : World) : Calls Tryz.prog 31 #[.agg #[.bool false, .slice none 0 0, .slice none 0 0], .agg #[.bool false, .slice none 0 0, .slice none 0 0]] w (GivesB true w) := by
  have := SameR_any false false none none none none 0 0 0 0 [] [] [] [] w (.inl rfl) (.inl rfl) (.inl rfl) (.inl rfl) (by simp) (by simp)
  simpa [ratV] using this
def zeroR : RawR := (false, (none, 0, 0), (none, 0, 0))
theorem Rats.five {W : World} {g : Nat} {ty : TypeId} (h : W.heap[g]? = some (.cells #[.bool false, .slice none 0 0, .slice none 0 0, .bool false, .slice none 0 0, .slice none 0 0, .bool false, .slice none 0 0, .slice none 0 0, .bool false, .slice none 0 0, .slice none 0 0, .bool false, .slice none 0 0, .slice none 0 0] ty (0, 0))) (k : Nat) (hk : k < 5) :
    W.cell? ⟨g, k * 3, none⟩ = some (.bool false) ∧ W.cell? ⟨g, k * 3 + 1, none⟩ = some (.slice none 0 0) ∧ W.cell? ⟨g, k * 3 + 2, none⟩ = some (.slice none 0 0) := by
  rcases k with _ | _ | _ | _ | _ | k
  · simp [World.cell?, h]
  · simp [World.cell?, h]
  · simp [World.cell?, h]
  · simp [World.cell?, h]
  · simp [World.cell?, h]
  · omega

set_option maxRecDepth 100000 in
set_option maxHeartbeats 8000000 in
theorem overR_walk {s t : Bool} {a1 a2 b1 b2 : Option Addr} {c1 c2 e1 e2 : Nat} {xs ds ys es : List Nat} {str : ByteArray} {w : World} (hx : HandR w a1 c1 xs a2 c2 ds) (hy : HandR w b1 e1 ys b2 e2 es) (hT : Tab w) (hs : str.size ≤ maxLen) :
    Calls Tryz.prog 7 #[ratV s (.slice a1 xs.length c1) (.slice a2 ds.length c2), ratV t (.slice b1 ys.length e1) (.slice b2 es.length e2), .string str] w (Holds w) := by
  obtain ⟨W0, hW0, hB0, k1, k2, hsz⟩ := boxes2 w #[.bool s, .slice a1 xs.length c1, .slice a2 ds.length c2] #[.bool t, .slice b1 ys.length e1, .slice b2 es.length e2] 27 27
  have HSP := Lib.hid (speaks02 (hT.kept hB0))
  have HK := Lib.hid (keep6 k1 k2)
  have HW0 := Lib.hid hW0
  have HB := Lib.hid hB0
  have HX := Lib.hid (hx.kept hB0)
  have HY := Lib.hid (hy.kept hB0)
  obtain ⟨p0, p1, p2, _⟩ := cells3 k1
  obtain ⟨p3, p4, p5, _⟩ := cells3 k2
  clear hW0 hB0 k1 k2 hx hy hT hsz
  unfold ratV
  go_enter Tryz.func7, Tryz.ntmps7
  go_wp2_with fail
  rw [← HW0.out]
  refine HSP.out.mono ?_
  rintro e w1 ⟨rfl, hb1⟩
  obtain ⟨p0, p1, p2, p3, p4, p5⟩ := HK.out _ hb1
  have HB1 := Lib.hid hb1
  clear hb1 HSP
  go_wp2_with fail
  have HBL1 := Lib.hid (HB.out.trans (HB1.out.mono HB.out.size))
  have hal := (Below.refl w1.heap.size w1).alloc (Nat.le_refl _) (.cells #[.bool s, .slice a1 xs.length c1, .slice a2 ds.length c2, .bool t, .slice b1 ys.length e1, .slice b2 es.length e2] 27)
  have HAL := Lib.hid hal
  have HG : Hid (Calls Tryz.prog 11 #[.slice (some ⟨w1.heap.size, 0, none⟩) 2 2] (w1.alloc (.cells #[.bool s, .slice a1 xs.length c1, .slice a2 ds.length c2, .bool t, .slice b1 ys.length e1, .slice b2 es.length e2] 27)) (GivesB (greatB [(s, (a1, xs.length, c1), (a2, ds.length, c2)), (t, (b1, ys.length, e1), (b2, es.length, e2))]) (w1.alloc (.cells #[.bool s, .slice a1 xs.length c1, .slice a2 ds.length c2, .bool t, .slice b1 ys.length e1, .slice b2 es.length e2] 27)))) :=
    Lib.hid (Great_any w1.heap.size 2 [(s, (a1, xs.length, c1), (a2, ds.length, c2)), (t, (b1, ys.length, e1), (b2, es.length, e2))] _ (Rats.two (heap_alloc_new w1 _)) (by simp) (by simp))
  clear hal
  cases hgr : greatB [(s, (a1, xs.length, c1), (a2, ds.length, c2)), (t, (b1, ys.length, e1), (b2, es.length, e2))]
  case true =>
    rw [hgr] at HG
    clear hgr
    refine HG.out.mono ?_
    rintro e w2 ⟨rfl, hb2⟩
    have HE := Lib.hid (HBL1.out.trans ((HAL.out.trans (hb2.mono HAL.out.size)).mono HBL1.out.size))
    clear hb2 HG HAL
    go_wp2_with fail
    go_ret
    exact ⟨rfl, HE.out⟩
  case false =>
  rw [hgr] at HG
  obtain ⟨l1, l2, l3, l4⟩ := great_two hgr
  clear hgr
  refine HG.out.mono ?_
  rintro e w2 ⟨rfl, hb2⟩
  have hb02 := HB1.out.trans ((HAL.out.trans (hb2.mono HAL.out.size)).mono HB1.out.size)
  have HRX := Lib.hid (RightR_any' (s := s) (HX.out.kept hb02) l1 l2)
  have HRY : Hid (∀ W, Below W0.heap.size W0 W → Calls Tryz.prog 12 #[.agg #[.bool t, .slice b1 ys.length e1, .slice b2 es.length e2]] W (GivesB (rightB t ys es) W)) := Lib.hid fun W h => RightR_any' (HY.out.kept h) l3 l4
  obtain ⟨p0, p1, p2, p3, p4, p5⟩ := HK.out _ hb02
  have HB2 := Lib.hid hb02
  clear hb2 hb02 HG HAL HB1 HBL1
  go_wp2_with fail
  cases hrx : rightB s xs ds
  case false =>
    rw [hrx] at HRX
    clear hrx
    refine HRX.out.mono ?_
    rintro e w3 ⟨rfl, hb3⟩
    have hb03 := HB2.out.trans (hb3.mono HB2.out.size)
    have HE := Lib.hid (HB.out.trans (hb03.mono HB.out.size))
    clear hb3 hb03 HRX HRY
    go_wp2_with fail
    go_ret
    exact ⟨rfl, HE.out⟩
  case true =>
  rw [hrx] at HRX
  clear hrx
  refine HRX.out.mono ?_
  rintro e w3 ⟨rfl, hb3⟩
  have hb03 := HB2.out.trans (hb3.mono HB2.out.size)
  have HRY2 := Lib.hid (HRY.out _ hb03)
  obtain ⟨p0, p1, p2, p3, p4, p5⟩ := HK.out _ hb03
  have HB3 := Lib.hid hb03
  clear hb3 hb03 HRX HRY HB2
  go_wp2_with fail
  cases hry : rightB t ys es
  case false =>
    rw [hry] at HRY2
    clear hry
    refine HRY2.out.mono ?_
    rintro e w4 ⟨rfl, hb4⟩
    have hb04 := HB3.out.trans (hb4.mono HB3.out.size)
    have HE := Lib.hid (HB.out.trans (hb04.mono HB.out.size))
    clear hb4 hb04 HRY2
    go_wp2_with fail
    go_ret
    exact ⟨rfl, HE.out⟩
  case true =>
  rw [hry] at HRY2
  clear hry
  refine HRY2.out.mono ?_
  rintro e w4 ⟨rfl, hb4⟩
  have hb04 := HB3.out.trans (hb4.mono HB3.out.size)
  obtain ⟨p0, p1, p2, p3, p4, p5⟩ := HK.out _ hb04
  have HB4 := Lib.hid hb04
  clear hb4 hb04 HRY2 HB3
  by_cases hlong : 60 < str.size
  · have q1 : decide ((60 : Int) < (str.size : Int)) = true := decide_eq_true (by omega)
    have q2 : (60 : Int) < (str.size : Int) := by omega
    have HE := Lib.hid (HB.out.trans (HB4.out.mono HB.out.size))
    clear hlong HB4
    go_wp2_with fail
    go_ret
    exact ⟨rfl, HE.out⟩
  · have q1 : decide ((60 : Int) < (str.size : Int)) = false := decide_eq_false (by omega)
    have q2 : ¬ (60 : Int) < (str.size : Int) := by omega
    clear hlong
    go_wp2_with fail
    refine (new_high 1 w4 (by omega) (by unfold maxLen; omega)).mono ?_
    rintro e w' ⟨rfl, rfl⟩
    go_wp2_with fail
    refine (mul5 w4).mono ?_
    rintro e w5 ⟨⟨a5, l5, c5, rfl⟩, hbe, hb5⟩
    have hlw := World.block_lt_of_cell? w4 _ p0
    have hlw2 := World.block_lt_of_cell? w4 _ p3
    dsimp only at hlw hlw2
    have hb05 := HB4.out.trans (hb5.mono HB4.out.size)
    have HBE := Lib.hid hbe
    have HB5 := Lib.hid hb05
    have HD := Lib.hid (DecQ_over hbe str)
    have hb4lt : w4.heap.size < w5.heap.size := hbe.lt
    clear hbe hb5 hb05
    go_wp2_with fail
    refine HD.out.mono ?_
    rintro e w6 ⟨rfl, hb6⟩
    have ha6 := (Below.refl w6.heap.size w6).alloc (Nat.le_refl _) (.cells #[.bool false, .slice none 0 0, .slice none 0 0] 27)
    have h57 := hb6.trans (ha6.mono hb6.size)
    have h07 := HB5.out.trans (h57.mono HB5.out.size)
    have hw56 := hb6.size
    obtain ⟨p0, p1, p2, p3, p4, p5⟩ := HK.out _ h07
    have HB7 := Lib.hid h07
    have HBE7 := Lib.hid (HBE.out.kept h57)
    have HKK : Hid (∀ W, Below (w6.alloc (.cells #[.bool false, .slice none 0 0, .slice none 0 0] 27)).heap.size (w6.alloc (.cells #[.bool false, .slice none 0 0, .slice none 0 0] 27)) W → (W.cell? ⟨w.heap.size, 0, none⟩ = some (.bool s) ∧ W.cell? ⟨w.heap.size, 1, none⟩ = some (.slice a1 xs.length c1) ∧ W.cell? ⟨w.heap.size, 2, none⟩ = some (.slice a2 ds.length c2) ∧ W.cell? ⟨w.heap.size + 1, 0, none⟩ = some (.bool t) ∧ W.cell? ⟨w.heap.size + 1, 1, none⟩ = some (.slice b1 ys.length e1) ∧ W.cell? ⟨w.heap.size + 1, 2, none⟩ = some (.slice b2 es.length e2) ∧
        W.cell? ⟨w6.heap.size, 0, none⟩ = some (.bool false) ∧ W.cell? ⟨w6.heap.size, 1, none⟩ = some (.slice none 0 0) ∧ W.cell? ⟨w6.heap.size, 2, none⟩ = some (.slice none 0 0))) := Lib.hid fun W h => by
      obtain ⟨g0, g1, g2, g3, g4, g5⟩ := HK.out _ (HB7.out.trans (h.mono HB7.out.size))
      obtain ⟨f0, f1, f2, _⟩ := keep3 (heap_alloc_new w6 _) W h
      exact ⟨g0, g1, g2, g3, g4, g5, f0, f1, f2⟩
    have HYN : Hid (∀ W, Below W0.heap.size W0 W → NumE W b1 ys.length e1 (V ys) ∧ NumE W b2 es.length e2 (V es)) := Lib.hid fun W h => ⟨.inn ((HY.out.kept h).num.inn (by omega)), .inn ((HY.out.kept h).den.inn (by omega))⟩
    clear ha6 h57 h07 hb6 HD HBE HB5
    have hn1 : w6.heap.size ≠ w.heap.size := by omega
    have hn2 : w6.heap.size ≠ w.heap.size + 1 := by omega
    have HA : Hid (∀ W, Below (w6.alloc (.cells #[.bool false, .slice none 0 0, .slice none 0 0] 27)).heap.size (w6.alloc (.cells #[.bool false, .slice none 0 0, .slice none 0 0] 27)) W → ∀ f, (f = 16 ∨ f = 19 ∨ f = 22 ∨ f = 25) → Calls Tryz.prog f #[.pointer (some ⟨w4.heap.size, 0, none⟩), .agg #[.bool s, .slice a1 xs.length c1, .slice a2 ds.length c2], .agg #[.bool t, .slice b1 ys.length e1, .slice b2 es.length e2]] W (fun e W' => e = .returned (.agg #[.bool false, .slice none 0 0, .slice none 0 0]) ∧ Below (w6.alloc (.cells #[.bool false, .slice none 0 0, .slice none 0 0] 27)).heap.size (w6.alloc (.cells #[.bool false, .slice none 0 0, .slice none 0 0] 27)) W')) := Lib.hid fun W h f hf => by
      have hbe := HBE7.out.kept h
      obtain ⟨y1, y2⟩ := HYN.out W (HB7.out.trans (h.mono HB7.out.size))
      rcases hf with rfl | rfl | rfl | rfl
      · exact (AddQ_over hbe s t a1 a2 b1 b2 xs.length c1 ds.length c2 ys.length e1 es.length e2).mono fun e W' hg => ⟨hg.1, h.trans (hg.2.mono h.size)⟩
      · exact (SubQ_over hbe s t a1 a2 b1 b2 xs.length c1 ds.length c2 ys.length e1 es.length e2).mono fun e W' hg => ⟨hg.1, h.trans (hg.2.mono h.size)⟩
      · exact (MulQ_over hbe s t a1 a2 b1 b2 xs.length c1 ds.length c2 ys.length e1 es.length e2).mono fun e W' hg => ⟨hg.1, h.trans (hg.2.mono h.size)⟩
      · exact (DivQ_over hbe y1 y2).mono fun e W' hg => ⟨hg.1, h.trans (hg.2.mono h.size)⟩
    have HA1 := Lib.hid fun W h => HA.out W h _ (.inl rfl)
    have HA2 := Lib.hid fun W h => HA.out W h _ (.inr (.inl rfl))
    have HA3 := Lib.hid fun W h => HA.out W h _ (.inr (.inr (.inl rfl)))
    have HA4 := Lib.hid fun W h => HA.out W h _ (.inr (.inr (.inr rfl)))
    have HOV : Hid (∀ W, Below (w6.alloc (.cells #[.bool false, .slice none 0 0, .slice none 0 0] 27)).heap.size (w6.alloc (.cells #[.bool false, .slice none 0 0, .slice none 0 0] 27)) W → Calls Tryz.prog 43 #[.pointer (some ⟨w4.heap.size, 0, none⟩)] W (Gives (.bool true) W)) := Lib.hid fun W h => over_any W _ 1 true (HBE7.out.kept h)
    have HBW := Lib.hid (HB.out.trans (HB7.out.mono HB.out.size))
    clear HA HYN HBE7 HK HB4 HB7 HB HX HY HW0
    go_wp2_with fail
    generalize hW7 : w6.alloc (.cells #[.bool false, .slice none 0 0, .slice none 0 0] 27) = W7 at *
    have HW7 := Lib.hid hW7
    clear hW7
    obtain ⟨g0, g1, g2, g3, g4, g5, g6, g7, g8⟩ := HKK.out W7 (Below.refl _ _)
    go_region_held3 (fun w' => w'.cell? ⟨w.heap.size, 0, none⟩ = some (.bool s) ∧ w'.cell? ⟨w.heap.size, 1, none⟩ = some (.slice a1 xs.length c1) ∧ w'.cell? ⟨w.heap.size, 2, none⟩ = some (.slice a2 ds.length c2) ∧ w'.cell? ⟨w.heap.size + 1, 0, none⟩ = some (.bool t) ∧ w'.cell? ⟨w.heap.size + 1, 1, none⟩ = some (.slice b1 ys.length e1) ∧ w'.cell? ⟨w.heap.size + 1, 2, none⟩ = some (.slice b2 es.length e2) ∧ w'.cell? ⟨w6.heap.size, 0, none⟩ = some (.bool false) ∧ w'.cell? ⟨w6.heap.size, 1, none⟩ = some (.slice none 0 0) ∧ w'.cell? ⟨w6.heap.size, 2, none⟩ = some (.slice none 0 0))
        (first | exact HKK.out _ hb11 | exact HKK.out _ (hb11.alloc hb11.size _) | exact HKK.out _ hb10 | exact HKK.out _ hb9 | exact HKK.out _ hb8 | go_keep)
        (first
          | (go_at_call 16; (with_reducible refine (HA1.out _ (below_drew _)).mono ?_); rintro e w8 ⟨rfl, hb8⟩)
          | (go_at_call 19; (with_reducible refine (HA2.out _ hb8).mono ?_); rintro e w9 ⟨rfl, hb9⟩)
          | (go_at_call 22; (with_reducible refine (HA3.out _ hb9).mono ?_); rintro e w10 ⟨rfl, hb10⟩)
          | (go_at_call 25; (with_reducible refine (HA4.out _ hb10).mono ?_); rintro e w11 ⟨rfl, hb11⟩))
    have hz := heap_alloc_new w11 (.cells #[.bool false, .slice none 0 0, .slice none 0 0, .bool false, .slice none 0 0, .slice none 0 0, .bool false, .slice none 0 0, .slice none 0 0, .bool false, .slice none 0 0, .slice none 0 0, .bool false, .slice none 0 0, .slice none 0 0] 27)
    have hb12 := hb11.alloc hb11.size (.cells #[.bool false, .slice none 0 0, .slice none 0 0, .bool false, .slice none 0 0, .slice none 0 0, .bool false, .slice none 0 0, .slice none 0 0, .bool false, .slice none 0 0, .slice none 0 0, .bool false, .slice none 0 0, .slice none 0 0] 27)
    have hlt12 : w11.heap.size < (w11.alloc (.cells #[.bool false, .slice none 0 0, .slice none 0 0, .bool false, .slice none 0 0, .slice none 0 0, .bool false, .slice none 0 0, .slice none 0 0, .bool false, .slice none 0 0, .slice none 0 0, .bool false, .slice none 0 0, .slice none 0 0] 27)).heap.size := by simp
    clear HA1 HA2 HA3 HA4 HKK hb8 hb9 hb10 hb11 g0 g1 g2 g3 g4 g5 g6 g7 g8 p0 p1 p2 p3 p4 p5 HW7
    generalize w11.alloc (.cells #[.bool false, .slice none 0 0, .slice none 0 0, .bool false, .slice none 0 0, .slice none 0 0, .bool false, .slice none 0 0, .slice none 0 0, .bool false, .slice none 0 0, .slice none 0 0, .bool false, .slice none 0 0, .slice none 0 0] 27) = W12 at *
    generalize w11.heap.size = g at *
    have HB12 := Lib.hid hb12
    have HZ := Lib.hid hz
    clear hb12 hz
    go_wp2_with fail
    go_loopw [63] (fun i wr => ∃ k : Nat, k ≤ 5 ∧ i = .int .i64 k ∧ Below W12.heap.size W12 wr) (fun i _ => 5 - (intOf i).toNat)
    case atStart => exact ⟨0, by omega, rfl, Below.refl _ _⟩
    case round =>
      obtain ⟨k, hk, rfl, hb⟩ := hrel
      by_cases hlt : k < 5
      · obtain ⟨d0, d1, d2⟩ := Rats.five ((hb.block _ hlt12).trans HZ.out) k hlt
        have hgr : g < wr.heap.size := Nat.lt_of_lt_of_le hlt12 hb.size
        have HBR := Lib.hid hb
        clear hb
        go_wp2_with fail
        refine (same_zero _).mono ?_
        rintro e wn ⟨rfl, hbn⟩
        have HBN := Lib.hid (HBR.out.trans (((Below.refl wr.heap.size wr).alloc (Nat.le_refl _) _).trans (hbn.mono (by simp)) |>.mono HBR.out.size))
        clear hbn HBR
        go_wp2_with fail
        go_roundw
        case rel => exact ⟨k + 1, by omega, by go_num, HBN.out⟩
        case measure => simp [intOf]; omega
      · obtain rfl : k = 5 := by omega
        have HBR := Lib.hid hb
        have HO := Lib.hid (HOV.out _ (HB12.out.trans (hb.mono HB12.out.size)))
        clear hb hlt
        go_wp2_with fail
        refine HO.out.mono ?_
        rintro e wn ⟨rfl, rfl⟩
        go_wp2_with fail
        go_ret
        exact ⟨rfl, HBW.out.trans ((HB12.out.trans (HBR.out.mono HB12.out.size)).mono HBW.out.size)⟩
end Go.Proofs.YtomoemgoglghlaaGreatDoor
