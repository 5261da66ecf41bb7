/-
  Layer 9: TermGrows: the walk.
-/
import Derived.Test.YtmiocohlklnglaaDoorTmGrows
set_option linter.unusedVariables false
set_option linter.unusedSimpArgs false
namespace Go.Proofs.YtmiocohlklnglaaDoor
open Go.RowKit Tm

/-- How great the law's numbers become. -/
def Bd (g : Ru) (k : Nat) : Prop := -1 ≤ g.b ∧ g.b ≤ 1000 + (k : Int) ∧ -1 ≤ g.r ∧ g.r ≤ 1000 + (k : Int) ∧ g.ks.length ≤ k
theorem Bd.great {g : Ru} {k : Nat} (h : Bd g k) {s : Int} (hs : s = 1 ∨ s = 2) : -1 ≤ greatest g s ∧ greatest g s ≤ 1000 + (k : Int) := by
  obtain ⟨h1, h2, h3, h4, h5⟩ := h
  rcases hs with rfl | rfl
  · exact ⟨h1, h2⟩
  · exact ⟨h3, h4⟩
theorem Bd.grow {g : Ru} {k : Nat} (h : Bd g k) {s : Int} (x : Kd) : Bd { growRu g s with ks := g.ks ++ [x] } (k + 1) := by
  obtain ⟨h1, h2, h3, h4, h5⟩ := h
  unfold Bd growRu
  split <;> refine ⟨?_, ?_, ?_, ?_, ?_⟩ <;> simp <;> omega
theorem Bd.more {g : Ru} {k : Nat} (h : Bd g k) : Bd g (k + 1) := by
  obtain ⟨h1, h2, h3, h4, h5⟩ := h
  exact ⟨h1, by omega, h3, by omega, by omega⟩
theorem nmap_ks (g : Ru) (l : List Kd) : nmap { g with ks := l } = nmap g := rfl
theorem hbd_great {g : Ru} {k n : Nat} {s : Int} (h : Bd g k) (hs : s = 1 ∨ s = 2) (hk : k ≤ n) (hn : n ≤ 60) : -1 ≤ greatest g s ∧ greatest g s ≤ 1060 := by
  have := h.great hs
  omega
set_option maxRecDepth 100000 in
set_option maxHeartbeats 16000000 in
theorem TermGrows_any (w : World) (b r : Int) (a : Option Addr) (l : List Int) (c : Nat) (hr : l = [] ∨ ∃ g off, a = some ⟨g, off, none⟩ ∧ w.rangeAt g off (i64s l)) :
    Calls Tryd.prog 3 #[.int .i64 b, .int .i64 r, .slice a l.length c] w (GivesV (.bool true) w) := by
  have hmm := @run_makeMap Tryd.prog
  have HSP := Lib.hid (speaks_any w)
  have HLIST : Hid (∀ (k : Nat) (x : Int), l[k]? = some x → ∃ g off, a = some ⟨g, off, none⟩ ∧ ∀ W, Below w.heap.size w W → W.cell? ⟨g, off + k, none⟩ = some (.int .i64 x)) := Lib.hid fun k x hx => by
    rcases hr with e | ⟨g, off, e, h⟩
    · subst e; simp at hx
    · exact ⟨g, off, e, fun W hW => (hW.cell (p := ⟨g, off + k, none⟩) (World.block_lt_of_cell? _ _ (h k _ (i64s_get hx)))).trans (h k _ (i64s_get hx))⟩
  clear hr
  obtain ⟨n, hn⟩ : ∃ n, l.length = n := ⟨_, rfl⟩
  have HN := Lib.hid hn
  rw [hn]
  clear hn
  have early : ∀ q1 q2 q3 q4 q5 : Bool, decide ((60 : Int) < (n : Int)) = q1 → decide (b < 0) = q2 → decide (r < 0) = q3 → decide ((1000 : Int) < b) = q4 → decide ((1000 : Int) < r) = q5 → (q1 || q2 || q3 || q4 || q5) = true →
      Calls Tryd.prog 3 #[.int .i64 b, .int .i64 r, .slice a n c] w (GivesV (.bool true) w) := by
    intro q1 q2 q3 q4 q5 h1 h2 h3 h4 h5 hq
    clear HLIST HN hmm
    cases q1 with
    | true =>
      go_enter Tryd.func3, Tryd.ntmps3
      go_wp2_with fail
      refine HSP.out.mono ?_
      rintro e w1 ⟨rfl, hb⟩
      go_wp2_with fail
      go_ret
      exact GivesV.mk' rfl hb
    | false =>
      cases q2 with
      | true =>
        go_enter Tryd.func3, Tryd.ntmps3
        go_wp2_with fail
        refine HSP.out.mono ?_
        rintro e w1 ⟨rfl, hb⟩
        go_wp2_with fail
        go_ret
        exact GivesV.mk' rfl hb
      | false =>
        cases q3 with
        | true =>
          go_enter Tryd.func3, Tryd.ntmps3
          go_wp2_with fail
          refine HSP.out.mono ?_
          rintro e w1 ⟨rfl, hb⟩
          go_wp2_with fail
          go_ret
          exact GivesV.mk' rfl hb
        | false =>
          cases q4 with
          | true =>
            go_enter Tryd.func3, Tryd.ntmps3
            go_wp2_with fail
            refine HSP.out.mono ?_
            rintro e w1 ⟨rfl, hb⟩
            go_wp2_with fail
            go_ret
            exact GivesV.mk' rfl hb
          | false =>
            cases q5 with
            | true =>
              go_enter Tryd.func3, Tryd.ntmps3
              go_wp2_with fail
              refine HSP.out.mono ?_
              rintro e w1 ⟨rfl, hb⟩
              go_wp2_with fail
              go_ret
              exact GivesV.mk' rfl hb
            | false => cases hq
  by_cases hok : n ≤ 60 ∧ 0 ≤ b ∧ 0 ≤ r ∧ b ≤ 1000 ∧ r ≤ 1000
  case neg =>
    refine early _ _ _ _ _ rfl rfl rfl rfl rfl ?_
    simp only [Bool.or_eq_true, decide_eq_true_eq]
    omega
  case pos =>
  obtain ⟨hn6, hb0, hr0, hb1, hr1⟩ := hok
  clear early
  have q1 : decide ((60 : Int) < (n : Int)) = false := by simp; omega
  have q2 : decide (b < 0) = false := by simp; omega
  have q3 : decide (r < 0) = false := by simp; omega
  have q4 : decide ((1000 : Int) < b) = false := by simp; omega
  have q5 : decide ((1000 : Int) < r) = false := by simp; omega
  have HBR := Lib.hid (And.intro hb0 (And.intro hr0 (And.intro hb1 (And.intro hr1 hn6))))
  have HNEW : Hid (∀ W, Calls Tryd.prog 6 #[.int .i64 b, .int .i64 r] W (fun e w' => ∃ T R mo mg, e = .returned (.pointer (some ⟨T, 0, none⟩)) ∧ TmAt w' W.heap.size T R mo mg (.slice none 0 0) (.slice none 0 0) ⟨b - 1, r - 1, []⟩ ∧ Below W.heap.size W w')) := Lib.hid fun W => by
    have := New_any W b r (by omega) (by omega)
    have e : startRu b r = ⟨b - 1, r - 1, []⟩ := by unfold startRu; rw [if_neg (by omega), if_neg (by omega)]
    rw [e] at this
    exact this
  clear hb0 hr0 hb1 hr1
  go_enter Tryd.func3, Tryd.ntmps3
  go_wp2_with fail
  refine HSP.out.mono ?_
  rintro e w1 ⟨rfl, hb⟩
  have HB1 := Lib.hid hb
  clear hb
  go_wp2_with fail
  refine (HNEW.out w1).mono ?_
  rintro e w2 ⟨T, R, mo, mg, rfl, h2, hb2⟩
  have HT2 := Lib.hid (And.intro h2 hb2)
  have hmade : ∀ W, Hid (MpAt W (W.alloc (.map #[] 0)) []) := fun W => Lib.hid (MpAt.made W)
  clear h2 hb2 q1 q2 q3 q4 q5
  go_wp2_with (first | (refine wpList_mp rfl (.tmp 43) _ _ (by with_reducible rfl) Tryd.underlying26 Tryd.underlying3 w2 (by rfl) _ (by rfl) _ (by rfl) _ (by first | assumption | exact hmade _) ?_; intro w4 hM4) | (refine wpList_mp rfl (.tmp 47) _ _ (by with_reducible rfl) Tryd.underlying26 Tryd.underlying3 _ (by rfl) _ (by rfl) _ (by rfl) _ (by first | assumption | exact hmade _) ?_; intro w6 hM6))
  have HST : Hid (GrSt w w6 w1.heap.size T R mo mg w2.heap.size w4.heap.size (.slice none 0 0) (.slice none 0 0) ⟨b - 1, r - 1, []⟩ ⟨b - 1, r - 1, []⟩) := Lib.hid (by
    have hM4' : MpAt w2 w4 [(1, .int .i64 b), (2, .int .i64 r)] := hM4.out
    have hM6' : MpAt w4 w6 omap := hM6.out
    have e : nmap ⟨b - 1, r - 1, []⟩ = [(1, .int .i64 b), (2, .int .i64 r)] := by
      unfold nmap
      dsimp only
      rw [show b - 1 + 1 = b by omega, show r - 1 + 1 = r by omega]
    have l4 := hM4'.im.lt
    have l2 := HT2.out.2.size
    have sz := HT2.out.1.ru.sizes
    have hb1 := HB1.out.size
    refine ⟨(HT2.out.1.kept hM4'.below).kept hM6'.below, ?_, hM6'.im, ⟨by omega, by omega, by omega, by omega⟩, HB1.out.trans ((HT2.out.2.trans ((hM4'.below.trans (hM6'.below.mono hM4'.below.size)).mono l2)).mono hb1), hb1, l2, by omega, by have := hM6'.im.lt; omega⟩
    rw [e]
    exact hM4'.im.past (hM6'.below.block _ l4))
  obtain ⟨B, hBB⟩ : ∃ B, w1.heap.size = B := ⟨_, rfl⟩
  obtain ⟨m1, hm1⟩ : ∃ m, w2.heap.size = m := ⟨_, rfl⟩
  obtain ⟨m2, hm2⟩ : ∃ m, w4.heap.size = m := ⟨_, rfl⟩
  rw [hBB, hm1, hm2] at HST
  rw [hm1, hm2]
  clear hM4 hM6 hmade HT2 hBB hm1 hm2
  go_loopw [51] (fun (iv : Value) (wr : World) => ∃ k : Nat, k ≤ n ∧ iv = .int .i64 (k : Int) ∧ Hid (∃ kv nv g, GrSt w wr B T R mo mg m1 m2 kv nv g g ∧ Bd g k)) (fun iv _ => n - (intOf iv).toNat)
  case atStart => exact ⟨0, Nat.zero_le _, rfl, Lib.hid ⟨_, _, _, HST.out, by have := HBR.out; unfold Bd; dsimp only; simp only [List.length_nil]; omega⟩⟩
  case round =>
    obtain ⟨k, hkn, rfl, HI⟩ := hrel
    clear HST
    by_cases hlt : k < n
    · obtain ⟨kv, nv, g, hS, hB⟩ := HI.out
      have hget : l[k]? = some (l.getD k 0) := by rw [List.getD_eq_getElem?_getD, List.getElem?_eq_getElem (by rw [HN.out]; exact hlt)]; rfl
      generalize l.getD k 0 = s at *
      obtain ⟨gb, off, rfl, hc⟩ := HLIST.out k s hget
      have hcell := hc wr hS.below
      have HS := Lib.hid hS
      have HBD := Lib.hid hB
      have hki : (k : Int) < (n : Int) := by omega
      have hiw : wrap64 ((k : Int) + 1) = (k : Int) + 1 := IntWalk.wrap64_in _ (by omega)
      clear hget hc hS hB HI
      by_cases hs : s = 1 ∨ s = 2
      · have HLK := Lib.hid (look_omap hs)
        have hgr := hbd_great HBD.out hs hkn hn6
        obtain ⟨v, hv⟩ : ∃ v, greatest g s + 1 = v := ⟨_, rfl⟩
        have hnm := look_nmap (g := g) hs
        rw [hv] at hnm
        have HLN := Lib.hid hnm
        have HA1 := Lib.hid ((Add_any HS.out.tm (n := nd0 s v) (fun W _ => bare_node W (by rcases hs with rfl | rfl <;> simp [nd0, opFor])) HS.out.base.2.2.2).mono (fun e w' h => h.says (code_over hs (by omega)).1 (code_over hs (by omega)).2 (x := 0) (y := 1) rfl rfl))
        have HV := Lib.hid (And.intro hv (And.intro hgr hs))
        have hvw : wrap64 (v + 1) = v + 1 := IntWalk.wrap64_in _ (by omega)
        clear hnm hgr hv hs
        obtain ⟨op, hop⟩ : ∃ op, opFor s = op := ⟨_, rfl⟩
        have HOP := Lib.hid hop
        rw [hop] at HLK
        clear hop
        go_wp2_with (first | (refine wpList_look2v rfl (.tmp 56) (.tmp 57) (by with_reducible rfl) Tryd.underlying26 Tryd.underlying3 (.int .i64 0) (zero_int _) m2 (by rfl) s (by rfl) _ HS.out.n2 (.int .i64 op) true HLK.out.1 HLK.out.2 ?_) | (refine wpList_lookv rfl (.tmp 70) (.tmp 71) (by with_reducible rfl) Tryd.underlying26 Tryd.underlying3 (.int .i64 0) (zero_int _) m1 (by rfl) s (by rfl) _ HS.out.n1 (.int .i64 v) HLN.out ?_))
        have hop := HOP.out
        subst hop
        refine HA1.out.mono ?_
        rintro e w3 ⟨rfl, kv3, nv3, h3, hc3⟩
        have HS3 := Lib.hid (HS.out.add h3 hc3)
        have HG := Grow_yes HS3.out.tm (s := s) HV.out.2.2 (by have := HV.out.2.1; omega) (by have := HV.out.2.1; omega)
        rw [HV.out.1] at HG
        have HGR := Lib.hid HG
        clear h3 hc3 HA1 HG
        go_wp2_with fail
        refine HGR.out.mono ?_
        rintro e w4 ⟨rfl, h4, hc4⟩
        have HS4 := Lib.hid (HS3.out.grow h4 hc4)
        have hfit := code_fits (g := growRu g s) (s := s) (v := v) HV.out.2.2 (by have := HV.out; omega) (by rw [great_grow HV.out.2.2, HV.out.1]; exact Int.le_refl _) (by rw [growRu_ks]; have := HBD.out.2.2.2.2; omega)
        rw [growRu_ks] at hfit
        obtain ⟨len, hlen⟩ : ∃ len, g.ks.length = len := ⟨_, rfl⟩
        have HA2 := Lib.hid ((Add_any HS4.out.tm (n := nd0 s v) (fun W _ => bare_node W (by rcases HV.out.2.2 with rfl | rfl <;> simp [nd0, opFor])) HS4.out.base.2.2.2).mono (fun e w' h => h.says hfit.1 hfit.2 (x := (len : Int)) (y := 0) (by rw [if_pos rfl, growRu_ks, hlen]) rfl))
        have HLEN := Lib.hid hlen
        clear h4 hc4 HGR hfit hlen
        go_wp2_with (refine wpList_lookv rfl (.tmp 83) (.tmp 84) (by with_reducible rfl) Tryd.underlying26 Tryd.underlying3 (.int .i64 0) (zero_int _) m1 (by rfl) s (by rfl) _ HS4.out.n1 (.int .i64 v) HLN.out ?_)
        refine HA2.out.mono ?_
        rintro e w5 ⟨rfl, kv5, nv5, h5, hc5⟩
        have HS5 := Lib.hid (HS4.out.add h5 hc5)
        have hsort := Sort_any HS5.out.tm (len : Int)
        have hkd : (kindOf (g.ks ++ [(s, false)]) (len : Int)).1 = s := by
          have hl := HLEN.out
          unfold kindOf has
          rw [if_pos (by simp; omega)]
          rw [← hl]
          simp
        rw [hkd] at hsort
        have HSORT := Lib.hid hsort
        clear h5 hc5 HA2 hsort hkd
        go_wp2_with (refine wpList_val (.int .i64 v) (run_look_op (.tmp 94) (.tmp 95) (by with_reducible rfl) Tryd.underlying26 Tryd.underlying3 (.int .i64 0) (zero_int _) m1 (by rfl) s (by rfl) _ HS5.out.n1 _ HLN.out) (by rfl) ?_)
        refine HSORT.out.mono ?_
        rintro e w6' ⟨rfl, hb6⟩
        have HS6 := Lib.hid (HS5.out.kept hb6)
        clear hb6 HSORT
        go_wp2_with (first | (refine wpList_lookv rfl (.tmp 110) (.tmp 111) (by with_reducible rfl) Tryd.underlying26 Tryd.underlying3 (.int .i64 0) (zero_int _) m1 (by rfl) s (by rfl) _ HS6.out.n1 (.int .i64 v) HLN.out ?_) | (refine wpList_upd rfl (.tmp 110) (.tmp 111) (.tmp 113) (.inl (by with_reducible rfl)) Tryd.underlying26 Tryd.underlying3 m1 (by rfl) s (by rfl) (.int .i64 (wrap64 (v + 1))) (by rfl) _ HS6.out.n1 ?_; intro w7 hM7 hC7; have HM := Lib.hid hM7; have HC := Lib.hid hC7; clear hM7 hC7))
        have hup := HM.out
        rw [hvw, ← HV.out.1, upd_nmap HV.out.2.2] at hup
        have HS7 := Lib.hid (HS6.out.upd (g' := { growRu g s with ks := g.ks ++ [(s, false)] }) hup HC.out)
        clear hup
        go_roundw
        case rel => exact ⟨k + 1, by omega, by go_num, Lib.hid ⟨_, _, _, HS7.out, HBD.out.grow _⟩⟩
        case measure => simp [intOf]; omega
      · have HLK := Lib.hid (look_omap_no hs)
        have HG := Lib.hid (Grow_no HS.out.tm hs)
        clear hs
        go_wp2_with (refine wpList_look2v rfl (.tmp 56) (.tmp 57) (by with_reducible rfl) Tryd.underlying26 Tryd.underlying3 (.int .i64 0) (zero_int _) m2 (by rfl) s (by rfl) _ HS.out.n2 (.int .i64 0) false HLK.out.1 HLK.out.2 ?_)
        refine HG.out.mono ?_
        rintro e w3 ⟨rfl, rfl⟩
        go_wp2_with fail
        go_roundw
        case rel => exact ⟨k + 1, by omega, by go_num, Lib.hid ⟨_, _, _, HS.out, HBD.out.more⟩⟩
        case measure => simp [intOf]; omega
    · obtain rfl : k = n := by omega
      obtain ⟨kv, nv, g, hS, hB⟩ := HI.out
      have HEND := Lib.hid hS.below
      clear hS hB HI
      go_wp2_with fail
      go_ret
      exact GivesV.mk' rfl HEND.out
end Go.Proofs.YtmiocohlklnglaaDoor
