/-
  Layer 17: QueueSorts' walk.
-/
import Derived.Test.YtkepengljbeipaaQuSt
set_option linter.unusedVariables false
set_option linter.unusedSimpArgs false
namespace Go.Proofs.Ytkepengljbeipaa
open Go.RowKit Qu

/-- Numbers that a law is handed. -/
def NumsIn (w : World) (a : Option Addr) (ns : List Int) : Prop := ns = [] ∨ ∃ g off, a = some ⟨g, off, none⟩ ∧ g < w.heap.size ∧ ∀ k, k < ns.length → w.cell? ⟨g, off + k, none⟩ = some (.int .i64 (el ns k))
theorem NumsIn.get {w : World} {a : Option Addr} {ns : List Int} (h : NumsIn w a ns) {k : Nat} (hk : k < ns.length) : ∃ g off, a = some ⟨g, off, none⟩ ∧ g < w.heap.size ∧ ∀ k, k < ns.length → w.cell? ⟨g, off + k, none⟩ = some (.int .i64 (el ns k)) := by
  rcases h with rfl | h
  · simp at hk
  · exact h
theorem NumsIn.kept {w w1 : World} {a : Option Addr} {ns : List Int} (h : NumsIn w a ns) (hb : Below w.heap.size w w1) : NumsIn w1 a ns := by
  rcases h with rfl | ⟨g, off, e, hg, hc⟩
  · exact .inl rfl
  · exact .inr ⟨g, off, e, Nat.lt_of_lt_of_le hg hb.size, fun k hk => (hb.cell (p := ⟨g, off + k, none⟩) hg).trans (hc k hk)⟩
def low (x : Int) : Int := bits .and .i64 x 255
theorem low_in (x : Int) : 0 ≤ low x ∧ low x ≤ 255 := by
  unfold low bits
  have h : (BitVec.ofInt IntKind.i64.bits x &&& BitVec.ofInt IntKind.i64.bits 255).toNat ≤ 255 := by
    rw [BitVec.toNat_and]
    exact Nat.and_le_right
  have e : IntKind.i64.wrap (((BitVec.ofInt IntKind.i64.bits x &&& BitVec.ofInt IntKind.i64.bits 255).toNat : Nat) : Int) = (((BitVec.ofInt IntKind.i64.bits x &&& BitVec.ofInt IntKind.i64.bits 255).toNat : Nat) : Int) := IntWalk.i64_in _ (by omega)
  dsimp only
  rw [e]
  omega
/-- So many are out, this one the last. -/
def Rest (w : World) (b s h n : Nat) (ns : List Int) (k : Nat) (last : Int) (W : World) : Prop := ∃ sc l len, St w W b s h n sc l len ∧ len + k = n ∧ (∀ v, v < n → el sc v = low (el ns v)) ∧
  ((k = 0 ∧ last = -1) ∨ (0 < k ∧ 0 ≤ last ∧ last < (n : Int) ∧ ∀ u, Mem l len u → aheadQ sc last u = true))
theorem Rest.step {w W W' : World} {b s h n : Nat} {ns sc l : List Int} {k len : Nat} {e : Ending} {v : Value} (st : St w W b s h n sc l len) (hsc : ∀ v, v < n → el sc v = low (el ns v)) (hlk : len + k = n) (h0 : 0 < len)
    (g : Acts v (PopP sc l len) w b s h n W e W') : Rest w b s h n ns (k + 1) (el l 0) W' := by
  obtain ⟨_, sc', l', len', st', _, rfl, rfl, hm⟩ := g
  have hr := st.rng 0 h0
  refine ⟨sc', l', len - 1, st', by omega, hsc, .inr ⟨by omega, hr.1, hr.2, fun u hu => ?_⟩⟩
  obtain ⟨⟨i, hi, hiu⟩, hne⟩ := (hm u).1 hu
  have hi0 : 0 < i := by
    by_cases c : i = 0
    · subst c; exact absurd hiu.symm hne
    · omega
  have := st.rt.hp.root i hi hi0
  rw [hiu] at this
  exact this
theorem Rest.kept {w W W' : World} {b s h n : Nat} {ns : List Int} {k : Nat} {last : Int} (x : Rest w b s h n ns k last W) (hb : Below W.heap.size W W') : Rest w b s h n ns k last W' := by
  obtain ⟨sc, l, len, st, r⟩ := x
  exact ⟨sc, l, len, st.kept hb, r⟩
/-- The first k are bumped. -/
def SIn (w : World) (b s h n : Nat) (ns : List Int) (k : Nat) (W : World) : Prop := ∃ sc l len, St w W b s h n sc l len ∧ len = n ∧ (∀ u, Mem l len u ↔ (0 ≤ u ∧ u < (n : Int))) ∧ ∀ v, v < n → el sc v = if v < k then low (el ns v) else 0
set_option maxRecDepth 100000 in
set_option maxHeartbeats 4000000 in
theorem sorts_walk (w : World) (a : Option Addr) (c : Nat) (ns : List Int) (hn : NumsIn w a ns) (hw : ∀ k, k < ns.length → -9223372036854775808 ≤ el ns k ∧ el ns k ≤ 9223372036854775807) (hc : ns.length ≤ maxLen) :
    Calls Try.prog 4 #[.slice a ns.length c] w (GivesV (.bool true) w) := by
  unfold maxLen at hc
  obtain ⟨n, hnl⟩ : ∃ n, n = ns.length := ⟨_, rfl⟩
  have HS := Lib.hid (speaks_any w)
  have HNS := Lib.hid hn
  have HW := Lib.hid hw
  have HL := Lib.hid hnl
  rw [← hnl] at hc ⊢
  clear hn hw hnl
  go_enter Try.func4, Try.ntmps4
  go_wp2_with fail
  refine HS.out.mono ?_
  rintro e w1 ⟨rfl, hb⟩
  have HB1 := Lib.hid hb
  clear hb HS
  by_cases hbig : 60 < n
  · have hbi : (60 : Int) < (n : Int) := by omega
    go_wp2_with fail
    go_ret
    exact GivesV.mk' rfl HB1.out
  · have hbi : ¬ (60 : Int) < (n : Int) := by omega
    have HN := Lib.hid (New_any w1 (n : Int) n (by omega) (by omega))
    go_wp2_with fail
    refine HN.out.mono ?_
    rintro e w2 ⟨s, h, rfl, hb, hr, hs, hh⟩
    have hs1 := HB1.out.size
    have st := St.start (w0 := w) (HB1.out.trans (hb.mono hs1)) hr (by omega) (by omega) (by omega)
    have HST := Lib.hid st
    obtain ⟨b, hbb⟩ : ∃ b, w2.heap.size = b := ⟨_, rfl⟩
    rw [hbb] at HST
    unfold qV
    clear hb hr hs hh st HN hs1
    go_wp2_with fail
    have hS0 : SIn w b s h n ns 0 (w2.alloc (.cells #[.slice (some ⟨s, 0, none⟩) n n, .slice (some ⟨h, 0, none⟩) n n] 26)) := ⟨_, _, _, HST.out, rfl, mem_ids n, fun v hv => by rw [el_zeros]; simp⟩
    clear HST hbb
    go_loopw [21] (fun iv wr => ∃ k : Nat, k ≤ n ∧ iv = .int .i64 k ∧ SIn w b s h n ns k wr) (fun iv _ => n - (intOf iv).toNat)
    case atStart => exact ⟨0, Nat.zero_le _, rfl, hS0⟩
    case round =>
      clear hS0
      obtain ⟨k, hk, rfl, HK⟩ := hrel
      have HHK := Lib.hid HK
      by_cases hkn : k < n
      · obtain ⟨sc, l, len, st, rfl, hm, hsc⟩ := HK
        obtain ⟨g, off, rfl, hg, hcell⟩ := (HNS.out.kept st.below).get (k := k) (by rw [← HL.out]; exact hkn)
        have hcx := hcell k (by rw [← HL.out]; exact hkn)
        have hwx := HW.out k (by rw [← HL.out]; exact hkn)
        have HSC := Lib.hid hsc
        have HM := Lib.hid hm
        have HST := Lib.hid st
        obtain ⟨x, hxx⟩ : ∃ x, el ns k = x := ⟨_, rfl⟩
        rw [hxx] at hcx hwx
        have hlx := low_in x
        have hz := hsc k hkn
        rw [if_neg (by omega)] at hz
        have HBU := Lib.hid (st.bump k (low x) hkn hlx.1 (by omega))
        have HX : Hid (∀ v, v < len → el (bumped sc k (low x)) v = if v < k + 1 then low (el ns v) else 0) := Lib.hid (fun v hv => by
          unfold bumped
          rw [el_set (by rw [st.q.rows.ls]; exact hkn), hz]
          by_cases c : v = k
          · subst c
            rw [if_pos rfl, if_pos (by omega), hxx]
            omega
          · rw [if_neg c, hsc v hv]
            by_cases c2 : v < k
            · rw [if_pos c2, if_pos (by omega)]
            · rw [if_neg c2, if_neg (by omega)])
        clear hcell st hm hsc hlx hz hxx HSC
        unfold low at HBU
        go_wp2_with fail
        refine HBU.out.mono ?_
        rintro e w3 ⟨rfl, sc', l', len', st', _, rfl, rfl, hm'⟩
        have HE : Hid (SIn w b s h len' ns (k + 1) w3) := Lib.hid ⟨_, l', len', st', rfl, fun u => (hm' u).trans (HM.out u), HX.out⟩
        clear st' hm' HBU HX HM HST
        go_wp2_with fail
        go_roundw
        case rel => exact ⟨k + 1, by omega, by go_num, HE.out⟩
        case measure => simp [intOf]; omega
      · obtain rfl : k = n := by omega
        obtain ⟨sc, l, len, st, hlen, hm, hsc⟩ := HK
        have HR : Hid (Rest w b s h k ns 0 (-1) wr) := Lib.hid ⟨sc, l, len, st, by omega, fun v hv => by rw [hsc v hv, if_pos hv], .inl ⟨rfl, rfl⟩⟩
        clear st hm hsc hlen HHK
        go_wp2_with fail
        go_loopw [6, 34] (fun lv iv wr => ∃ (j : Nat) (last : Int), j ≤ k ∧ iv = .int .i64 j ∧ lv = .int .i64 last ∧ Rest w b s h k ns j last wr) (fun _ iv _ => k - (intOf iv).toNat)
        case atStart => exact ⟨0, -1, Nat.zero_le _, rfl, rfl, HR.out⟩
        case round =>
          clear HR
          obtain ⟨j, last, hj, rfl, rfl, HK⟩ := hrel
          have HHK := Lib.hid HK
          obtain ⟨sc, l, len, st, hlk, hsc, hla⟩ := HK
          by_cases hjk : j < k
          · have h0 : 0 < len := by omega
            have hr := st.rng 0 h0
            obtain ⟨v, hv⟩ : ∃ v : Nat, el l 0 = (v : Int) := ⟨(el l 0).toNat, by omega⟩
            have hvk : v < k := by omega
            have hP := st.pop h0
            have hmv : Mem l len (v : Int) := ⟨0, h0, hv⟩
            have HST : Hid (∀ e W', Acts (.tuple #[.int .i64 (v : Int), .bool true]) (PopP sc l len) w b s h k wr e W' → Rest w b s h k ns (j + 1) (v : Int) W') := Lib.hid (fun e W' g => by
              have := Rest.step st hsc hlk h0 g
              rw [hv] at this
              exact this)
            rw [hv] at hP
            have HP := Lib.hid hP
            obtain ⟨g, off, rfl, hg, hcell⟩ := HNS.out.get (k := v) (by rw [← HL.out]; exact hvk)
            have HCV := Lib.hid (fun W (x : Below w.heap.size w W) i (hi : i < k) => (x.cell (p := ⟨g, off + i, none⟩) hg).trans (hcell i (by rw [← HL.out]; exact hi)))
            have hvk2 : decide (k ≤ v) = false := decide_eq_false (by omega)
            have hv0 : decide ((v : Int) < 0) = false := decide_eq_false (by omega)
            rcases hla with ⟨_, rfl⟩ | ⟨_, hl0, hl1, hall⟩
            · clear st hsc hP hr hcell hmv hv
              go_wp2_with fail
              refine HP.out.mono ?_
              rintro e w3 hg3
              obtain ⟨rfl, _⟩ := id hg3
              have HR := Lib.hid (HST.out _ _ hg3)
              clear hg3 HP HST
              go_wp2_with fail
              go_quiet (fail)
              go_wp2_with fail
              go_roundw
              case rel => exact ⟨j + 1, (v : Int), by omega, by go_num, rfl, HR.out.kept (below_drewN (Below.refl _ _) _)⟩
              case measure => simp [intOf]; omega
            · obtain ⟨q, rfl⟩ : ∃ q : Nat, last = (q : Int) := ⟨last.toNat, by omega⟩
              have hqk : q < k := by omega
              have ha := hall v hmv
              rw [ahead_iff] at ha
              unfold sco at ha
              rw [Int.toNat_natCast, Int.toNat_natCast, hsc q hqk, hsc v hvk] at ha
              have HC2 := Lib.hid (fun W (x : Below w.heap.size w W) => And.intro (HCV.out W x v hvk) (HCV.out W x q hqk))
              generalize el ns v = x at *
              generalize el ns q = y at *
              have hgt : decide (low y < low x) = false := decide_eq_false (by omega)
              cases he : (low x == low y) with
              | false =>
                unfold low at hgt he
                clear st hsc hP hr hcell hmv hv ha hall HCV
                go_wp2_with fail
                refine HP.out.mono ?_
                rintro e w3 hg3
                obtain ⟨rfl, _⟩ := id hg3
                have HR := Lib.hid (HST.out _ _ hg3)
                obtain ⟨c1, c2⟩ := HC2.out _ (HR.out.choose_spec.choose_spec.choose_spec.1.below)
                clear hg3 HP HST
                go_wp2_with fail
                go_quiet (fail)
                go_wp2_with fail
                go_roundw
                case rel => exact ⟨j + 1, (v : Int), by omega, by go_num, rfl, HR.out.kept (below_drewN (Below.refl _ _) _)⟩
                case measure => simp [intOf]; omega
              | true =>
                have hle : decide (v ≤ q) = false := decide_eq_false (by rw [beq_iff_eq] at he; omega)
                unfold low at hgt he
                clear st hsc hP hr hcell hmv hv ha hall HCV
                go_wp2_with fail
                refine HP.out.mono ?_
                rintro e w3 hg3
                obtain ⟨rfl, _⟩ := id hg3
                have HR := Lib.hid (HST.out _ _ hg3)
                obtain ⟨c1, c2⟩ := HC2.out _ (HR.out.choose_spec.choose_spec.choose_spec.1.below)
                clear hg3 HP HST
                go_wp2_with fail
                go_quiet (fail)
                go_wp2_with fail
                go_roundw
                case rel => exact ⟨j + 1, (v : Int), by omega, by go_num, rfl, HR.out.kept (below_drewN (Below.refl _ _) _)⟩
                case measure => simp [intOf]; omega
          · obtain rfl : len = 0 := by omega
            have HP := Lib.hid (Pop_none st.q)
            obtain ⟨c0, c1⟩ := st.q.reads
            have HB := Lib.hid st.below
            clear st hsc hla
            go_wp2_with fail
            refine HP.out.mono ?_
            rintro e w3 ⟨rfl, rfl⟩
            clear HP
            go_wp2_with fail
            go_ret
            exact GivesV.mk' rfl HB.out
end Go.Proofs.Ytkepengljbeipaa
