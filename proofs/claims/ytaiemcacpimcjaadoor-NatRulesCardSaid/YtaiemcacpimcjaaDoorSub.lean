/-
  nat's benches: Sub.
-/
import Derived.Test.YtaiemcacpimcjaaDoorBenchOps
set_option linter.unusedVariables false
set_option linter.unusedSimpArgs false
namespace Go.Proofs.YtaiemcacpimcjaaDoor
open Go.RowKit Rep

set_option maxRecDepth 100000 in
set_option maxHeartbeats 400000 in
theorem takeOff_nil (B : Nat) (ay : Option Addr) (cy : Nat) (w : World) : Calls Tryd.prog 38 #[.slice none 0 0, .slice ay 0 cy] w (GivesTake B none 0 w) := by
  go_enter Tryd.func38, Tryd.ntmps38
  go_wp2_with fail
  go_loop [10] (fun i => i = .int .i64 0) (fun i => (intOf i).toNat)
  case atStart => rfl
  case round =>
    subst hrel
    go_wp2_with fail
    refine (trim_own B none 0 0 [] rfl w (Dig.nil _) (Own.nil _ _)).mono ?_
    rintro e w' ⟨a', c', rfl, ho, ha, rfl⟩
    go_wp2_with fail
    go_ret
    exact ⟨a', c', rfl, ho, ha, grown_refl _ _⟩

/-- takeOff of limbs of one's own, by limbs that lay ahead of them. -/
theorem takeOff_own (B : Nat) (a ay : Option Addr) (c cy : Nat) (xs ys : List Nat) (w : World) (hx : Lim xs) (hy : Lim ys) (ho : Own B w a c xs) (ry : Reads w ay (ys.map u32v)) (hne : ys.map u32v = [] ∨ ∀ g' off, ay = some ⟨g', off, none⟩ → g' < B)
    (lx : xs.length ≤ 1073741824) (ly : ys.length ≤ xs.length) (hle : V ys ≤ V xs) :
    Calls Tryd.prog 38 #[.slice a xs.length c, .slice ay ys.length cy] w (GivesTake B a (V xs - V ys) w) := by
  obtain ⟨hc, ⟨rfl, rfl, rfl⟩ | ⟨g, rfl, hg, hr⟩⟩ := ho
  · obtain rfl : ys = [] := List.length_eq_zero_iff.1 (by simpa using ly)
    exact takeOff_nil B ay cy w
  · refine takeOff_some B g xs ys c cy ay w hx hy hg hc hr ry ?_ lx ly hle
    rcases hne with hne | hne
    · exact .inl hne
    · exact .inr fun g' off h e => by cases e; have := hne g off h; omega

theorem Reads.old {w : World} {a : Option Addr} {vs : List Value} (h : Reads w a vs) : vs = [] ∨ ∀ g' off, a = some ⟨g', off, none⟩ → g' < w.heap.size := by
  by_cases e : vs = []
  · exact .inl e
  · obtain ⟨g, off, rfl, hg, _⟩ := h.open' (List.length_pos_iff.2 e)
    exact .inr fun g' off' h => by cases h; exact hg

theorem clone_any (a : Option Addr) (c n : Nat) (w : World) (h : NumAt w a c n) (hl : (L n).length ≤ 1073741824) :
    Calls Tryd.prog 39 #[.slice a (L n).length c] w (GivesOwn (L n) w) := by
  cases a with
  | some p => exact clone_some p (L n) c w h.1 hl
  | none =>
    have : L n = [] := by
      rcases h.1 with h1 | ⟨g, off, h1, _⟩
      · simpa using h1
      · cases h1
    rw [this]
    exact clone_nil c w

set_option maxRecDepth 100000 in
set_option maxHeartbeats 1000000 in
theorem Sub_any (b m : Nat) (ax ay : Option Addr) (xs ys : List Nat) (cx cy : Nat) (w : World) (o : Bool) (h : Bench w b m o) (hx : NumIn w ax cx xs) (hy : NumIn w ay cy ys) :
    Calls Tryd.prog 16 #[.pointer (some ⟨b, 0, none⟩), .slice ax xs.length cx, .slice ay ys.length cy] w (GivesOut b m o (V xs - V ys) w) := by
  have h1 := h.c1
  have HB := Lib.hid h
  have hlx := cutAt_len xs hx.lim
  have hly := cutAt_len ys hy.lim
  have hxl := hx.len
  have hyl := hy.len
  clear h
  go_enter Tryd.func16, Tryd.ntmps16
  go_wp2_with fail
  refine (trim_num ax xs cx w hx.lim hx.reads hx.le hx.cap).mono ?_
  rintro e w' ⟨a1, c1, rfl, n1, rfl⟩
  go_wp2_with fail
  refine (trim_num ay ys cy w hy.lim hy.reads hy.le hy.cap).mono ?_
  rintro e w' ⟨a2, c2, rfl, n2, rfl⟩
  clear hx hy
  generalize hN : V xs = N at *
  generalize hM : V ys = M at *
  clear hN hM
  have HN := Lib.hid n1
  have HM := Lib.hid n2
  clear n1 n2
  cases o with
  | true =>
    go_wp2_with fail
    go_ret
    exact GivesOut.gone HB.out
  | false =>
    go_wp2_with fail
    refine (compare_num a1 a2 c1 c2 N M w HN.out HM.out (by omega)).mono ?_
    rintro e w1 ⟨rfl, hb1⟩
    have HB1 := Lib.hid hb1
    clear hb1
    by_cases hlt : N < M
    · have hc : cmpI N M = -1 := by unfold cmpI; rw [if_pos (by omega)]
      rw [hc]
      clear hc
      go_wp2_with fail
      go_ret
      rw [show N - M = 0 from by omega]
      exact GivesOut.zero (HB.out.kept HB1.out) (grown_of_below HB1.out _)
    · have hc : cmpI N M = 0 ∨ cmpI N M = 1 := by
        unfold cmpI
        rw [if_neg (by omega)]
        split
        · exact .inl rfl
        · exact .inr rfl
      have hln : (L M).length ≤ (L N).length := by
        have : ¬ (L N).length < (L M).length := fun h => hlt (lt_of_len h)
        omega
      rcases hc with hc | hc
      all_goals
        rw [hc]
        clear hc
        go_wp2_with fail
        refine (clone_any a1 c1 N w1 (HN.out.kept HB1.out) (by omega)).mono ?_
        rintro e w2 ⟨a3, c3, rfl, ho, hb2⟩
        have HB2 := Lib.hid (HB1.out.trans (hb2.mono HB1.out.size))
        have HO := Lib.hid ho
        clear ho hb2
        go_wp2_with fail
        refine (takeOff_own w1.heap.size a3 a2 c3 c2 (L N) (L M) w2 (L_lim N) (L_lim M) HO.out (HM.out.1.kept HB2.out) ?_ (by omega) hln (by rw [V_L, V_L]; omega)).mono ?_
        · rcases HM.out.1.old with h | h
          · exact .inl h
          · exact .inr fun g off e => Nat.lt_of_lt_of_le (h g off e) HB1.out.size
        rintro e w3 ⟨a4, c4, rfl, ho4, ha4, hg4⟩
        rw [V_L, V_L] at ho4 ⊢
        have hb3 : Below w.heap.size w w3 := HB2.out.grown hg4 HB2.out.size (fun k hk => by
          obtain ⟨_, ⟨rfl, _⟩ | ⟨g, rfl, hg, hr⟩⟩ := HO.out
          · cases hk
          · cases hk; exact Nat.le_trans HB1.out.size hg)
        have HN4 := Lib.hid ho4.num
        clear ho4 ha4 hg4
        go_wp2_with fail
        refine (fit_out w w3 b m false a4 (N - M) c4 HB.out HN4.out hb3).mono ?_
        rintro e w4 ⟨a', c', rfl, hg⟩
        go_wp2_with fail
        go_ret
        exact ⟨a', c', rfl, hg⟩
end Go.Proofs.YtaiemcacpimcjaaDoor
