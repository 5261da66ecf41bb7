/-
  nat.add.
-/
import Derived.Test.YtaiemcacpimcjaaDoorTrimNum
import Derived.Test.YtaiemcacpimcjaaDoorClone
import Derived.Test.YtaiemcacpimcjaaDoorMulMath
set_option linter.unusedVariables false
set_option linter.unusedSimpArgs false
namespace Go.Proofs.YtaiemcacpimcjaaDoor
open Go.RowKit Rep

/-- Behind k places of the sum. -/
def AddOut (w : World) (ax ay : Option Addr) (cx cy : Nat) (xs ys : List Nat) (k c : Nat) (wr : World) : Prop :=
  ∃ S : List Nat, Row 48 wr w.heap.size (max xs.length ys.length + 1) (S.map u32v) ∧ S.length = max xs.length ys.length ∧ Lim S ∧
    V (S.take k) + c * 4294967296 ^ k = V (xs.take k) + V (ys.take k) ∧
    wr.heap[w.heap.size + 1]? = some (.cells #[.slice ax xs.length cx, .slice ay ys.length cy] 71 (0, 0)) ∧ Below w.heap.size w wr

theorem AddOut.start (w : World) (ax ay : Option Addr) (cx cy : Nat) (xs ys : List Nat) (n : Nat) (hn : n = max xs.length ys.length) :
    AddOut w ax ay cx cy xs ys 0 0 ((w.alloc (.cells (zrow .u32 (n + 1)) 48)).alloc (.cells #[.slice ax xs.length cx, .slice ay ys.length cy] 71)) := by
  subst hn
  refine ⟨List.replicate (max xs.length ys.length) 0, ?_, by simp, Dig.replicate _ _ _ (by omega), by simp [V, Rep.val], ?_, ((Below.refl _ _).alloc (Nat.le_refl _) _).alloc (by simp) _⟩
  · have h1 := (Row.zrow (E := 48) .u32 w (max xs.length ys.length + 1)).take (max xs.length ys.length)
    rw [List.take_replicate, Nat.min_eq_left (by omega)] at h1
    rw [List.map_replicate]
    exact h1.alloc _
  · have := heap_alloc_new (w.alloc (.cells (zrow .u32 (max xs.length ys.length + 1)) 48)) (.cells #[.slice ax xs.length cx, .slice ay ys.length cy] 71)
    rwa [World.size_alloc] at this

theorem AddOut.step {w : World} {ax ay : Option Addr} {cx cy : Nat} {xs ys : List Nat} {k c : Nat} {wr : World} (h : AddOut w ax ay cx cy xs ys k c wr) (hk : k < max xs.length ys.length) :
    (∃ q : Nat, wr.cell? ⟨w.heap.size, k, none⟩ = some (.int .u32 q)) ∧ wr.frozen? ⟨w.heap.size, k, none⟩ = false ∧
    wr.cell? ⟨w.heap.size + 1, 0, none⟩ = some (.slice ax xs.length cx) ∧ wr.cell? ⟨w.heap.size + 1, 1, none⟩ = some (.slice ay ys.length cy) ∧ Below w.heap.size w wr ∧
    ∀ t : Nat, t = c + xs.getD k 0 + ys.getD k 0 → AddOut w ax ay cx cy xs ys (k + 1) (t / 4294967296) (wr.setCell ⟨w.heap.size, k, none⟩ (.int .u32 ((t % 4294967296 : Nat) : Int))) := by
  obtain ⟨S, h1, h2, h3, h4, h5, h6⟩ := h
  have hlen : k < S.length := by omega
  refine ⟨⟨_, h1.cell _ _ (map_getElem? hlen)⟩, h1.frozen _, by simp [World.cell?, h5], by simp [World.cell?, h5], h6, fun t ht => ?_⟩
  refine ⟨S.set k (t % 4294967296), ?_, by simpa using h2, h3.set _ _ (Nat.mod_lt _ (by omega)), ?_, ?_, h6.setCell (p := ⟨w.heap.size, k, none⟩) (Nat.le_refl _) _⟩
  · have := h1.set k (u32v (t % 4294967296))
    rwa [← List.map_set] at this
  · unfold V at h4 ⊢
    rw [val_take_succ', val_take_succ', val_take_succ', getD_set_self hlen, List.take_set_of_le (Nat.le_refl _), Nat.pow_succ]
    have h7 := Nat.mod_add_div t 4294967296
    have h8 : 4294967296 ^ k * (t % 4294967296) + t / 4294967296 * (4294967296 ^ k * 4294967296) = 4294967296 ^ k * t := by
      rw [Nat.mul_comm (t / 4294967296), Nat.mul_assoc, ← Nat.mul_add, h7]
    have h9 : 4294967296 ^ k * t = c * 4294967296 ^ k + 4294967296 ^ k * xs.getD k 0 + 4294967296 ^ k * ys.getD k 0 := by
      rw [ht, Nat.mul_add, Nat.mul_add, Nat.mul_comm c]
    omega
  · rw [Below.heap_setCell _ _ _ _ (by simp)]
    exact h5

theorem AddOut.done {w : World} {ax ay : Option Addr} {cx cy : Nat} {xs ys : List Nat} {c : Nat} {wr : World} (h : AddOut w ax ay cx cy xs ys (max xs.length ys.length) c wr) :
    ∃ S : List Nat, S.length = max xs.length ys.length ∧ Lim S ∧ V (S ++ [c]) = V xs + V ys ∧ Row 48 wr w.heap.size (max xs.length ys.length + 1) (S.map u32v) ∧ Below w.heap.size w wr := by
  obtain ⟨S, h1, h2, h3, h4, h5, h6⟩ := h
  refine ⟨S, h2, h3, ?_, h1, h6⟩
  unfold V at h4 ⊢
  rw [val_snoc, h2, Nat.mul_comm]
  rw [List.take_of_length_le (by omega), List.take_of_length_le (by omega), List.take_of_length_le (by omega)] at h4
  exact h4

set_option maxRecDepth 100000 in
set_option maxHeartbeats 1000000 in
theorem add_any (ax ay : Option Addr) (xs ys : List Nat) (cx cy : Nat) (w : World) (hx : Lim xs) (hy : Lim ys) (rx : Reads w ax (xs.map u32v)) (ry : Reads w ay (ys.map u32v))
    (lx : xs.length ≤ 1073741824) (ly : ys.length ≤ 1073741824) :
    Calls Tryd.prog 35 #[.slice ax xs.length cx, .slice ay ys.length cy] w (GivesNew (V xs + V ys) w) := by
  have hm1 := make_run (P := Tryd.prog) Tryd.underlying23 Tryd.info48 (↑xs.length) (↑xs.length + 1) xs.length (xs.length + 1) (by simp) (by simp) (by omega) (by omega) (by unfold maxLen; omega)
  have hm2 := make_run (P := Tryd.prog) Tryd.underlying23 Tryd.info48 (↑ys.length) (↑ys.length + 1) ys.length (ys.length + 1) (by simp) (by simp) (by omega) (by omega) (by unfold maxLen; omega)
  have HS := Lib.hid (AddOut.start w ax ay cx cy xs ys)
  have i0 : ∀ (w : World) (a b : Value), (Instr.index 71 (.agg #[a, b]) (.int .i64 0)).run Tryd.prog w = .ok a w := fun _ _ _ => by kernel_rfl
  have i1 : ∀ (w : World) (a b : Value), (Instr.index 71 (.agg #[a, b]) (.int .i64 1)).run Tryd.prog w = .ok b w := fun _ _ _ => by kernel_rfl
  go_enter Tryd.func35, Tryd.ntmps35
  go_wp2_with fail
  all_goals
    clear hm1 hm2
    go_loopw [8, 25] (fun cv i wr => ∃ k c : Nat, k ≤ max xs.length ys.length ∧ c ≤ 1 ∧ cv = .int .u64 c ∧ i = .int .i64 k ∧ AddOut w ax ay cx cy xs ys k c wr) (fun _ i _ => max xs.length ys.length - (intOf i).toNat)
    case atStart => exact ⟨0, 0, by omega, by omega, rfl, rfl, HS.out _ (by omega)⟩
    case round =>
      obtain ⟨k, c, hk, hc, rfl, rfl, hout⟩ := hrel
      by_cases hlt : k < max xs.length ys.length
      · obtain ⟨⟨q, hq⟩, hf, hp0, hp1, hB, hnext⟩ := hout.step hlt
        have rxr := rx.kept hB
        have ryr := ry.kept hB
        have HN := Lib.hid hnext
        have HB := Lib.hid hB
        clear hnext hB hout
        have hX : xs.getD k 0 < 4294967296 := hx.getD k (by omega)
        have hY : ys.getD k 0 < 4294967296 := hy.getD k (by omega)
        obtain ⟨X, hXe⟩ : ∃ X, X = xs.getD k 0 := ⟨_, rfl⟩
        obtain ⟨Y, hYe⟩ : ∃ Y, Y = ys.getD k 0 := ⟨_, rfl⟩
        rw [← hXe] at hX HN
        rw [← hYe] at hY HN
        have HX := Lib.hid hXe
        have HY := Lib.hid hYe
        clear hXe hYe
        first
          | have hlt' : k < ys.length := by omega
          | have hlt' : k < xs.length := by omega
        clear hlt
        go_wp2
        obtain ⟨wo, rfl⟩ : ∃ wo : World, wo = wr := ⟨_, rfl⟩
        go_loop [8, 29] (fun cv jv => (jv = .int .i64 0 ∧ cv = .int .u64 c) ∨ (jv = .int .i64 1 ∧ cv = .int .u64 (c + X : Nat)) ∨ (jv = .int .i64 2 ∧ cv = .int .u64 (c + X + Y : Nat))) (fun _ jv => 2 - (intOf jv).toNat)
        case atStart => exact .inl ⟨rfl, rfl⟩
        case round =>
          rcases hrel with ⟨rfl, rfl⟩ | ⟨rfl, rfl⟩ | ⟨rfl, rfl⟩
          · by_cases hkx : k < xs.length
            · obtain ⟨g, off, rfl, hg, hcell⟩ := rxr.open' (by rw [List.length_map]; omega)
              have hck := hcell k _ (map_getElem? hkx)
              rw [← HX.out] at hck
              unfold u32v at hck
              clear hcell
              go_wp2
              go_round
              case rel => exact .inr (.inl ⟨rfl, by go_num⟩)
              case measure => simp [intOf]
            · first
                | (exfalso; omega)
                | (
                  have h0 : X = 0 := by rw [HX.out, getD_ge (by omega)]
                  subst h0
                  go_wp2
                  go_round
                  case rel => exact .inr (.inl ⟨rfl, by go_num⟩)
                  case measure => simp [intOf])
          · by_cases hky : k < ys.length
            · obtain ⟨g, off, rfl, hg, hcell⟩ := ryr.open' (by rw [List.length_map]; omega)
              have hck := hcell k _ (map_getElem? hky)
              rw [← HY.out] at hck
              unfold u32v at hck
              clear hcell
              go_wp2
              go_round
              case rel => exact .inr (.inr ⟨rfl, by go_num⟩)
              case measure => simp [intOf]
            · first
                | (exfalso; omega)
                | (
                  have h0 : Y = 0 := by rw [HY.out, getD_ge (by omega)]
                  subst h0
                  go_wp2
                  go_round
                  case rel => exact .inr (.inr ⟨rfl, by go_num⟩)
                  case measure => simp [intOf])
          · go_wp2
            go_roundw
            case rel => exact ⟨k + 1, (c + X + Y) / 4294967296, by omega, by omega, by go_num, by go_num, HN.out _ rfl⟩
            case measure => simp [intOf]; omega
      · obtain rfl : k = max xs.length ys.length := by omega
        obtain ⟨S, hSl, hSd, hSv, hSr, hB⟩ := hout.done
        have HV := Lib.hid hSv
        have HL := Lib.hid hSl
        clear hSv hout hSl hlt
        rcases Nat.lt_or_ge 0 c with hc0 | hc0
        · obtain rfl : c = 1 := by omega
          have hnr : Reads (wr.alloc (.cells #[.int .u32 1] 48)) (some ⟨wr.heap.size, 0, none⟩) [.int .u32 1] := by
            simpa using (Row.new (E := 48) wr #[.int .u32 1]).reads0
          have h1c : ∀ u ∈ [Value.int .u32 1], u.oneCell' = true := by simp [Value.oneCell']
          have hSr1 := hSr.alloc (.cells #[.int .u32 1] 48)
          first
            | have hmx : max xs.length ys.length = ys.length := by omega
            | have hmx : max xs.length ys.length = xs.length := by omega
          rw [hmx] at hSr1
          have HL1 := Lib.hid (HL.out.trans hmx)
          clear hmx
          go_wp2_with (first | (at_builtin; refine wpList_append_row _ rfl (.tmp 54) (.tmp 57) 23 rfl 48 (.int .u32 0) 4 Tryd.underlying23 Tryd.info48 rfl w.heap.size _ _ (S.map u32v) rfl hSr1 (by rw [List.length_map]; exact HL1.out) (by unfold maxLen; omega) (some ⟨wr.heap.size, 0, none⟩) 1 1 [.int .u32 1] rfl rfl hnr h1c (by unfold maxLen; omega) (by omega) ?_; intro g' cap' w' hrow' hcap hgrow hg') | fail)
          have hrd : Reads w' (some ⟨g', 0, none⟩) ((S ++ [1]).map u32v) := by simpa [u32v] using hrow'.reads0
          have hle := hrow'.le
          rw [List.length_append, List.length_map, HL1.out] at hle
          have hB' : Below w.heap.size w w' := (hB.alloc hB.size _).grown hgrow (by have := hB.size; simp; omega) (fun k hk => by cases hk; exact Nat.le_refl _)
          clear hrow' hgrow hnr hSr1 h1c
          refine (trim_at _ _ _ (S ++ [1]) (by rw [List.length_append, HL1.out]; rfl) _ (hSd.append (Dig.cons (by omega) (Dig.nil _))) hrd hle hcap).mono ?_
          rintro e w'' ⟨a, c, rfl, hat, rfl⟩
          rw [HV.out] at hat ⊢
          clear hSd hSr hrd
          go_wp2_with fail
          go_ret
          exact ⟨a, c, rfl, hat, hB'⟩
        · obtain rfl : c = 0 := by omega
          have hSr0 := hSr.reads0
          have hV0 : V S = V xs + V ys := by rw [← HV.out]; unfold V; rw [val_snoc]; simp
          have HV0 := Lib.hid hV0
          clear hV0
          go_wp2_with fail
          refine (trim_at _ _ _ S (by have := HL.out; omega) _ hSd hSr0 (by omega) (by unfold maxLen; omega)).mono ?_
          rintro e w' ⟨a, c, rfl, hat, rfl⟩
          rw [HV0.out] at hat ⊢
          clear hSd hSr hSr0
          go_wp2_with fail
          go_ret
          exact ⟨a, c, rfl, hat, hB⟩
end Go.Proofs.YtaiemcacpimcjaaDoor
