/- By program out of: RatCmp, RatText, RatTerm, RefRight, RatLaw, RatHand, RatTold, RatSt, RatPair, RatRight. -/
import Derived.Test.YtmiocohlklnglaaDoorMgaaicd
import Derived.IntWalk
/-
  ratio.Cmp.
-/
set_option linter.unusedVariables false
set_option linter.unusedSimpArgs false
namespace Go.Proofs.YtmiocohlklnglaaDoor
open Go.RowKit Rep

theorem wrap_small {a : Int} (h1 : -1 ≤ a) (h2 : a ≤ 1) : IntKind.i64.wrap a = a := by
  exact IntWalk.i64_in _ (by omega)
end Go.Proofs.YtmiocohlklnglaaDoor


/-
  ratio.Text, Term; the document's.
-/
set_option linter.unusedVariables false
set_option linter.unusedSimpArgs false
namespace Go.Proofs.YtmiocohlklnglaaDoor
open Go.RowKit Rep

theorem dlen_L {n k : Nat} (h : (L n).length ≤ k) : (D n).length ≤ 10 * k := by
  have := D_len_limbs (L_lim n)
  rw [V_L] at this
  omega
/-- A number's text. -/
def tN (n : Nat) : ByteArray := strOf (txt n)
theorem tN_len (n : Nat) : (tN n).size ≤ (D n).length + 1 := by
  show (strOf (txt n)).size ≤ _
  unfold strOf txt
  by_cases h : n = 0
  · rw [if_pos h]; show 1 ≤ _; omega
  · rw [if_neg h]
    show ((D n).reverse.map (fun d => UInt8.ofNat (48 + d))).toArray.size ≤ _
    simp
theorem bapp_assoc (a b c : ByteArray) : a ++ b ++ c = a ++ (b ++ c) := by
  apply ByteArray.ext
  simp [ByteArray.data_append]
/-- A ratio's text, of its parts' texts. -/
def textB (s o : Bool) (a b : ByteArray) : ByteArray := (if s = true then (⟨#[45]⟩ ++ a) else a) ++ (if o = true then ⟨#[]⟩ else (⟨#[47]⟩ ++ b))
def textQ (q : Rat) : ByteArray := textB (ngQ q) (decide (q.den = 1)) (tN (mgQ q)) (tN (denN q.den))
theorem textB_one (s : Bool) (a b : ByteArray) : textB s true a b = if s = true then (⟨#[45]⟩ ++ a) else a := by
  unfold textB
  rw [if_pos rfl]
  apply ByteArray.ext
  simp [ByteArray.data_append]
theorem textB_more (s : Bool) (a b : ByteArray) : textB s false a b = (if s = true then (⟨#[45]⟩ ++ a) else a) ++ (⟨#[47]⟩ ++ b) := rfl
/-- A call gives a text. -/
def GivesTx (v : ByteArray) (w : World) (e : Ending) (w' : World) : Prop := e = .returned (.string v) ∧ Below w.heap.size w w'

theorem den_gt {x : Rat} (hd : x.den ≠ 1) : 0 < (L (denN x.den)).length := by
  rw [Nat.pos_iff_ne_zero, Ne, L_len_zero]
  unfold denN
  rw [if_neg hd]
  have := den_pos x
  omega

end Go.Proofs.YtmiocohlklnglaaDoor


/-
  ratio.Term; the document's Text, Term.
-/
set_option linter.unusedVariables false
set_option linter.unusedSimpArgs false
namespace Go.Proofs.YtmiocohlklnglaaDoor
open Go.RowKit Rep

/-- A ratio's term, of its parts' texts. -/
def termB (s o : Bool) (a b : ByteArray) : ByteArray := if s = true then (⟨#[40, 45, 32]⟩ ++ (if o = true then a ++ ⟨#[46, 48]⟩ else (⟨#[40, 47, 32]⟩ ++ (a ++ ⟨#[46, 48]⟩) ++ ⟨#[32]⟩ ++ b ++ ⟨#[46, 48, 41]⟩)) ++ ⟨#[41]⟩) else (if o = true then a ++ ⟨#[46, 48]⟩ else (⟨#[40, 47, 32]⟩ ++ (a ++ ⟨#[46, 48]⟩) ++ ⟨#[32]⟩ ++ b ++ ⟨#[46, 48, 41]⟩))
def termQ (q : Rat) : ByteArray := termB (ngQ q) (decide (q.den = 1)) (tN (mgQ q)) (tN (denN q.den))
theorem termB_one (s : Bool) (a b : ByteArray) : termB s true a b = if s = true then (⟨#[40, 45, 32]⟩ ++ (a ++ ⟨#[46, 48]⟩) ++ ⟨#[41]⟩) else a ++ ⟨#[46, 48]⟩ := rfl
theorem termB_more (s : Bool) (a b : ByteArray) : termB s false a b = if s = true then (⟨#[40, 45, 32]⟩ ++ (⟨#[40, 47, 32]⟩ ++ (a ++ ⟨#[46, 48]⟩) ++ ⟨#[32]⟩ ++ b ++ ⟨#[46, 48, 41]⟩) ++ ⟨#[41]⟩) else (⟨#[40, 47, 32]⟩ ++ (a ++ ⟨#[46, 48]⟩) ++ ⟨#[32]⟩ ++ b ++ ⟨#[46, 48, 41]⟩) := rfl
/-- What the test for a denominator of 1 reads. -/
theorem den_reads {W : World} {a : Option Addr} {c M : Nat} (h : DAt W a c M) :
    (M = 1 → ∃ g off, a = some ⟨g, off, none⟩ ∧ 0 < (D M).length ∧ W.cell? ⟨g, off, none⟩ = some (.int .i64 1) ∧ True) ∧
    (M ≠ 1 → ((((D M).length : Nat) : Int) != 1) = true ∨ (((((D M).length : Nat) : Int) != 1) = false ∧ ∃ g off, a = some ⟨g, off, none⟩ ∧ 0 < (D M).length ∧ W.cell? ⟨g, off, none⟩ = some (.int .i64 (M : Int)) ∧ ((M : Int) != 1) = true)) := by
  constructor
  · intro h1
    subst h1
    obtain ⟨g, off, hga, hg, hc⟩ := h.1.open' (by rw [List.length_map, D_one]; simp)
    have hck := hc 0 (.int .i64 1) (by rw [D_one]; rfl)
    rw [Nat.add_zero] at hck
    exact ⟨g, off, hga, by rw [D_one]; simp, hck, trivial⟩
  · intro hM
    by_cases hl : (D M).length = 1
    · obtain ⟨hm, hDM⟩ := D_len1 hl
      obtain ⟨g, off, hga, hg, hc⟩ := h.1.open' (by rw [List.length_map]; omega)
      have hck := hc 0 (.int .i64 (M : Int)) (by rw [hDM]; rfl)
      rw [Nat.add_zero] at hck
      exact .inr ⟨by rw [hl]; rfl, g, off, hga, by omega, hck, by rw [bne_iff_ne]; omega⟩
    · exact .inl (by rw [bne_iff_ne]; omega)

end Go.Proofs.YtmiocohlklnglaaDoor


/-
  The document's Right of ratios.
-/
set_option linter.unusedVariables false
set_option linter.unusedSimpArgs false
namespace Go.Proofs.YtmiocohlklnglaaDoor
open Go.RowKit Rep

/-- The number that a sign and two rows of limbs tell. -/
def qOf (s : Bool) (xs ds : List Nat) : Rat := mkQ s (V xs) (if V ds = 0 then 1 else V ds)
/-- Is it in its one form? -/
def rightB (s : Bool) (xs ds : List Nat) : Bool := decide (s = ngQ (qOf s xs ds) ∧ xs = L (mgQ (qOf s xs ds)) ∧ ds = L (denN (qOf s xs ds).den))
theorem rightB_top {s : Bool} {xs ds : List Nat} (h : rightB s xs ds = true) : (xs.length ≠ 0 → xs.getD (xs.length - 1) 0 ≠ 0) ∧ (ds.length ≠ 0 → ds.getD (ds.length - 1) 0 ≠ 0) ∧ ¬ (xs.length = 0 ∧ s = true) := by
  obtain ⟨h1, h2, h3⟩ := of_decide_eq_true h
  have key : ∀ {n : Nat} {l : List Nat}, l = L n → l.length ≠ 0 → l.getD (l.length - 1) 0 ≠ 0 := fun {n l} e hl => by
    subst e; exact Nat.ne_of_gt (top_limb (M := n) (by omega))
  refine ⟨key h2, key h3, fun ⟨e1, e2⟩ => ?_⟩
  have e3 : mgQ (qOf s xs ds) = 0 := by rw [h2] at e1; exact L_len_zero.1 e1
  have e4 := mg_zero.1 e3
  rw [e4, e2] at h1
  cases h1
theorem last_limb {w : World} {a : Option Addr} {xs : List Nat} (h : Reads w a (xs.map u32v)) (hl : xs.length ≠ 0) : ∃ g off, a = some ⟨g, off, none⟩ ∧ g < w.heap.size ∧ w.cell? ⟨g, off + (xs.length - 1), none⟩ = some (.int .u32 ((xs.getD (xs.length - 1) 0 : Nat) : Int)) := by
  obtain ⟨g, off, rfl, hg, hcell⟩ := h.open' (by rw [List.length_map]; omega)
  exact ⟨g, off, rfl, hg, hcell (xs.length - 1) _ (map_getElem? (xs := xs) (by omega))⟩
/-- A row of limbs: empty; or with a last one, which is a nought, or none. -/
def Tail3 (w : World) (a : Option Addr) (l : Nat) (bad : Bool) : Prop :=
  (l = 0 ∧ bad = false) ∨ (∃ g off x : Nat, a = some ⟨g, off, none⟩ ∧ g < w.heap.size ∧ w.cell? ⟨g, off + (l - 1), none⟩ = some (.int .u32 (x : Int)) ∧ 0 < l ∧ ((x : Int) == 0) = bad)
theorem tail3 {w : World} {a : Option Addr} {xs : List Nat} (h : Reads w a (xs.map u32v)) : Tail3 w a xs.length (decide (xs.length ≠ 0 ∧ xs.getD (xs.length - 1) 0 = 0)) := by
  by_cases hl : xs.length = 0
  · exact .inl ⟨hl, by simp [hl]⟩
  · obtain ⟨g, off, ha, hg, hc⟩ := last_limb h hl
    refine .inr ⟨g, off, _, ha, hg, hc, by omega, ?_⟩
    generalize xs.getD (xs.length - 1) 0 = x
    rw [Bool.eq_iff_iff]
    simp [hl]

end Go.Proofs.YtmiocohlklnglaaDoor


/-
  The ratio laws' own helpers: Great.
-/
set_option linter.unusedVariables false
set_option linter.unusedSimpArgs false
namespace Go.Proofs.YtmiocohlklnglaaDoor
open Go.RowKit Rep

/-- A ratio's raw parts. -/
abbrev RawR := Bool × (Option Addr × Nat × Nat) × (Option Addr × Nat × Nat)
def rawV (t : RawR) : Value := .agg #[.bool t.1, .slice t.2.1.1 t.2.1.2.1 t.2.1.2.2, .slice t.2.2.1 t.2.2.2.1 t.2.2.2.2]
/-- From block g's beginning on lie ratios. -/
def Rats (w : World) (g : Nat) (ts : List RawR) : Prop := ∀ k t, ts[k]? = some t → w.cell? ⟨g, k * 3, none⟩ = some (.bool t.1) ∧ w.cell? ⟨g, k * 3 + 1, none⟩ = some (.slice t.2.1.1 t.2.1.2.1 t.2.1.2.2) ∧ w.cell? ⟨g, k * 3 + 2, none⟩ = some (.slice t.2.2.1 t.2.2.2.1 t.2.2.2.2)
def greatB (ts : List RawR) : Bool := ts.any fun t => decide (6 < t.2.1.2.1) || decide (6 < t.2.2.2.1)

set_option maxRecDepth 100000 in
set_option maxHeartbeats 1000000 in
theorem Great_any (g c : Nat) (ts : List RawR) (w : World) (hr : Rats w g ts) (hg : g < w.heap.size) (hl : ts.length ≤ 1000) :
    Calls Tryd.prog 18 #[.slice (some ⟨g, 0, none⟩) ts.length c] w (GivesB (greatB ts) w) := by
  go_enter Tryd.func18, Tryd.ntmps18
  go_wp2_with fail
  go_loopw [7] (fun i wr => ∃ k : Nat, k ≤ ts.length ∧ i = .int .i64 k ∧ Hid (greatB (ts.take k) = false) ∧ Below w.heap.size w wr) (fun i _ => ts.length - (intOf i).toNat)
  case atStart => exact ⟨0, Nat.zero_le _, rfl, Lib.hid rfl, Below.refl _ _⟩
  case round =>
    obtain ⟨k, hk, rfl, HE, hb⟩ := hrel
    by_cases hlt : k < ts.length
    · obtain ⟨c0, c1, c2⟩ := hr k ts[k] (List.getElem?_eq_getElem hlt)
      have HT : Hid (ts.take (k + 1) = ts.take k ++ [ts[k]]) := Lib.hid (List.take_succ_eq_append_getElem hlt)
      have HM : Hid (ts[k] ∈ ts) := Lib.hid (List.getElem_mem hlt)
      generalize ts[k] = t at c0 c1 c2 HT HM
      obtain ⟨s, ⟨a1, l1, e1⟩, ⟨a2, l2, e2⟩⟩ := t
      dsimp only at c0 c1 c2
      have d0 := (hb.cell (p := ⟨g, k * 3, none⟩) hg).trans c0
      have d1 := (hb.cell (p := ⟨g, k * 3 + 1, none⟩) hg).trans c1
      have d2 := (hb.cell (p := ⟨g, k * 3 + 2, none⟩) hg).trans c2
      have HB := Lib.hid hb
      clear hb c0 c1 c2 hr
      have hgr : g < wr.heap.size := World.block_lt_of_cell? _ _ d0
      by_cases q1 : 6 < l1
      · have e1 : decide ((6 : Int) < (l1 : Int)) = true := decide_eq_true (by omega)
        have e2 : (6 : Int) < (l1 : Int) := by omega
        have HV : Hid (greatB ts = true) := Lib.hid (List.any_eq_true.2 ⟨_, HM.out, by simp [q1]⟩)
        rw [HV.out]
        clear q1 HE HT HM HV
        go_wp2_with fail
        go_ret
        exact ⟨rfl, HB.out.alloc HB.out.size _⟩
      · have e1 : decide ((6 : Int) < (l1 : Int)) = false := decide_eq_false (by omega)
        have e2 : ¬ (6 : Int) < (l1 : Int) := by omega
        by_cases q2 : 6 < l2
        · have e3 : decide ((6 : Int) < (l2 : Int)) = true := decide_eq_true (by omega)
          have HV : Hid (greatB ts = true) := Lib.hid (List.any_eq_true.2 ⟨_, HM.out, by simp [q2]⟩)
          rw [HV.out]
          have e4 : (6 : Int) < (l2 : Int) := by omega
          clear q1 q2 HE HT HM HV
          go_wp2_with fail
          go_ret
          exact ⟨rfl, HB.out.alloc HB.out.size _⟩
        · have e3 : decide ((6 : Int) < (l2 : Int)) = false := decide_eq_false (by omega)
          have e4 : ¬ (6 : Int) < (l2 : Int) := by omega
          have HV : Hid (greatB (ts.take (k + 1)) = false) := Lib.hid (by
            have := HE.out
            unfold greatB at this ⊢
            rw [HT.out, List.any_append, this]
            simp [q1, q2])
          clear q1 q2 HE HT HM
          go_wp2_with fail
          go_roundw
          case rel => exact ⟨k + 1, by omega, by go_num, HV, HB.out.alloc HB.out.size _⟩
          case measure => simp [intOf]; omega
    · obtain rfl : k = ts.length := by omega
      have HB := Lib.hid hb
      clear hb hr
      go_wp2_with fail
      go_ret
      exact ⟨by have := HE.out; rw [List.take_length] at this; rw [this]; rfl, HB.out⟩

theorem Rats.one {W : World} {g : Nat} {ty : TypeId} {t : RawR} (h : W.heap[g]? = some (.cells #[.bool t.1, .slice t.2.1.1 t.2.1.2.1 t.2.1.2.2, .slice t.2.2.1 t.2.2.2.1 t.2.2.2.2] ty (0, 0))) : Rats W g [t] := by
  intro k x hk
  rcases k with _ | k
  · simp at hk; subst hk; simp [World.cell?, h]
  · simp at hk
theorem Rats.two {W : World} {g : Nat} {ty : TypeId} {t u : RawR} (h : W.heap[g]? = some (.cells #[.bool t.1, .slice t.2.1.1 t.2.1.2.1 t.2.1.2.2, .slice t.2.2.1 t.2.2.2.1 t.2.2.2.2, .bool u.1, .slice u.2.1.1 u.2.1.2.1 u.2.1.2.2, .slice u.2.2.1 u.2.2.2.1 u.2.2.2.2] ty (0, 0))) : Rats W g [t, u] := by
  intro k x hk
  rcases k with _ | _ | k
  · simp at hk; subst hk; simp [World.cell?, h]
  · simp at hk; subst hk; simp [World.cell?, h]
  · simp at hk
theorem Rats.three {W : World} {g : Nat} {ty : TypeId} {t u v : RawR} (h : W.heap[g]? = some (.cells #[.bool t.1, .slice t.2.1.1 t.2.1.2.1 t.2.1.2.2, .slice t.2.2.1 t.2.2.2.1 t.2.2.2.2, .bool u.1, .slice u.2.1.1 u.2.1.2.1 u.2.1.2.2, .slice u.2.2.1 u.2.2.2.1 u.2.2.2.2, .bool v.1, .slice v.2.1.1 v.2.1.2.1 v.2.1.2.2, .slice v.2.2.1 v.2.2.2.1 v.2.2.2.2] ty (0, 0))) : Rats W g [t, u, v] := by
  intro k x hk
  rcases k with _ | _ | _ | k
  · simp at hk; subst hk; simp [World.cell?, h]
  · simp at hk; subst hk; simp [World.cell?, h]
  · simp at hk; subst hk; simp [World.cell?, h]
  · simp at hk
end Go.Proofs.YtmiocohlklnglaaDoor


/-
  A ratio that a law is handed.
-/
set_option linter.unusedVariables false
set_option linter.unusedSimpArgs false
namespace Go.Proofs.YtmiocohlklnglaaDoor
open Go.RowKit Rep

/-- A call tells that it holds. -/
def Says (w : World) (e : Ending) (w' : World) : Prop := e = .returned (.bool true) ∧ Below w.heap.size w w'

/-- A ratio that a law is handed. -/
structure HandR (w : World) (a1 : Option Addr) (c1 : Nat) (xs : List Nat) (a2 : Option Addr) (c2 : Nat) (ds : List Nat) : Prop where
  num : Handed w a1 c1 xs
  den : Handed w a2 c2 ds
theorem HandR.kept {w w' : World} {a1 : Option Addr} {c1 : Nat} {xs : List Nat} {a2 : Option Addr} {c2 : Nat} {ds : List Nat} (h : HandR w a1 c1 xs a2 c2 ds) (hb : Below w.heap.size w w') : HandR w' a1 c1 xs a2 c2 ds := ⟨h.num.kept hb, h.den.kept hb⟩
/-- Ratios that aren't great, as raw rows. -/
theorem great_two {s t : Bool} {a1 a2 b1 b2 : Option Addr} {c1 c2 e1 e2 l1 l2 k1 k2 : Nat} (h : greatB [(s, (a1, l1, c1), (a2, l2, c2)), (t, (b1, k1, e1), (b2, k2, e2))] = false) : l1 ≤ 6 ∧ l2 ≤ 6 ∧ k1 ≤ 6 ∧ k2 ≤ 6 := by
  simp [greatB] at h
  omega
end Go.Proofs.YtmiocohlklnglaaDoor


/-
  The ratio laws' helper told.
-/
set_option linter.unusedVariables false
set_option linter.unusedSimpArgs false
namespace Go.Proofs.YtmiocohlklnglaaDoor
open Go.RowKit Rep

/-- A ratio's raw parts tell q. -/
structure VQ (q : Rat) (v : RawR) (W : World) : Prop where
  e0 : v.1 = ngQ q
  e1 : v.2.1.2.1 = (L (mgQ q)).length
  e2 : v.2.2.2.1 = (L (denN q.den)).length
  lies : AtQ W v.2.1.1 v.2.1.2.2 v.2.2.1 v.2.2.2.2 q
theorem VQ.kept {q : Rat} {v : RawR} {W W' : World} (h : VQ q v W) (hb : Below W.heap.size W W') : VQ q v W' := ⟨h.e0, h.e1, h.e2, h.lies.kept hb⟩
theorem VQ.set3 {q : Rat} {v : RawR} {W : World} {g : Nat} (h : VQ q v W) (hb : Blank W g) (s : Bool) (v1 v2 : Value) : VQ q v (Go.Proofs.YtmiocohlklnglaaDoor.set3 W g s v1 v2) := ⟨h.e0, h.e1, h.e2, h.lies.set3 hb.rat _ _ _⟩

/-- Behind the closure's call. -/
structure T1 (w W0 : World) (b m : Nat) (q : Rat) (x : RawR) (W : World) : Prop where
  vx : VQ (outQ m q) x W
  bench : Bench W b m (ovQ m q)
  below : Below W0.heap.size W0 W
  eb : b = W0.heap.size
/-- Behind both calls. -/
structure T2 (w W0 : World) (b m : Nat) (q : Rat) (x y : RawR) (W : World) : Prop where
  vx : VQ (outQ m q) x W
  vy : VQ q y W
  bench : Bench W b m (ovQ m q)
  below : Below W0.heap.size W0 W
  eb : b = W0.heap.size
section
variable {w W0 W : World} {b m : Nat} {q : Rat} {x y : RawR}
theorem T1.kept {W' : World} (h : T1 w W0 b m q x W) (hb : Below W.heap.size W W') : T1 w W0 b m q x W' := ⟨h.vx.kept hb, h.bench.kept hb, h.below.trans (hb.mono h.below.size), h.eb⟩
theorem T2.kept {W' : World} (h : T2 w W0 b m q x y W) (hb : Below W.heap.size W W') : T2 w W0 b m q x y W' := ⟨h.vx.kept hb, h.vy.kept hb, h.bench.kept hb, h.below.trans (hb.mono h.below.size), h.eb⟩
theorem T2.alloc (h : T2 w W0 b m q x y W) (o : Obj) : T2 w W0 b m q x y (W.alloc o) := h.kept ((Below.refl _ _).alloc (Nat.le_refl _) _)
theorem T2.set3 {g : Nat} (h : T2 w W0 b m q x y W) (hb : Blank W g) (hg : W0.heap.size < g) (s : Bool) (v1 v2 : Value) : T2 w W0 b m q x y (Go.Proofs.YtmiocohlklnglaaDoor.set3 W g s v1 v2) :=
  ⟨h.vx.set3 hb _ _ _, h.vy.set3 hb _ _ _, h.bench.set3 (by have := h.eb; omega) _ _ _, set3_below h.below (by omega), h.eb⟩

/-- Where a ratio's parts lie. -/
def LiesR (v : RawR) (g : Nat) (W : World) : Prop := W.heap[g]? = some (.cells #[.bool v.1, .slice v.2.1.1 v.2.1.2.1 v.2.1.2.2, .slice v.2.2.1 v.2.2.2.1 v.2.2.2.2] 37 (0, 0))
theorem LiesR.kept {v : RawR} {g : Nat} {W W' : World} (h : LiesR v g W) (hb : Below W.heap.size W W') : LiesR v g W' := (hb.block _ (Array.getElem?_eq_some_iff.1 h).1).trans h
theorem LiesR.new (v : RawR) (W : World) : LiesR v W.heap.size (W.alloc (.cells #[.bool v.1, .slice v.2.1.1 v.2.1.2.1 v.2.1.2.2, .slice v.2.2.1 v.2.2.2.1 v.2.2.2.2] 37)) := heap_alloc_new W _
theorem LiesR.alloc {v : RawR} {g : Nat} {W : World} (h : LiesR v g W) (o : Obj) : LiesR v g (W.alloc o) := h.kept ((Below.refl _ _).alloc (Nat.le_refl _) _)
theorem LiesR.put {g : Nat} {W : World} (h : Blank W g) (v : RawR) : LiesR v g (set3 W g v.1 (.slice v.2.1.1 v.2.1.2.1 v.2.1.2.2) (.slice v.2.2.1 v.2.2.2.1 v.2.2.2.2)) := by
  unfold Blank at h
  simp [LiesR, set3, World.setCell, Array.getElem?_modify, h]
theorem LiesR.past {v : RawR} {g k : Nat} {W : World} (h : LiesR v g W) (hne : g ≠ k) (s : Bool) (v1 v2 : Value) : LiesR v g (set3 W k s v1 v2) :=
  ((set3_grown W k s v1 v2).block _ (Array.getElem?_eq_some_iff.1 h).1 (by simpa using hne)).trans h
theorem Blank.past {g k : Nat} {W : World} (h : Blank W g) (hne : g ≠ k) (s : Bool) (v1 v2 : Value) : Blank (set3 W k s v1 v2) g :=
  ((set3_grown W k s v1 v2).block _ (Array.getElem?_eq_some_iff.1 h).1 (by simpa using hne)).trans h
theorem set3_size (W : World) (r : Nat) (s : Bool) (v1 v2 : Value) : (set3 W r s v1 v2).heap.size = W.heap.size := by simp [set3, World.setCell]

/-- Behind the region: where both answers lie. -/
structure ToldAt (w W0 : World) (b m : Nat) (q : Rat) (i : Nat × Nat × RawR × RawR) (W : World) : Prop where
  x : LiesR i.2.2.1 i.1 W
  y : LiesR i.2.2.2 i.2.1 W
  t : T2 w W0 b m q i.2.2.1 i.2.2.2 W

theorem T2.end0a (h : T2 w W0 b m q x y W) : ToldAt w W0 b m q (W.heap.size, W.heap.size + 1, x, y) ((W.alloc (.cells #[.bool x.1, .slice x.2.1.1 x.2.1.2.1 x.2.1.2.2, .slice x.2.2.1 x.2.2.2.1 x.2.2.2.2] 37)).alloc (.cells #[.bool y.1, .slice y.2.1.1 y.2.1.2.1 y.2.1.2.2, .slice y.2.2.1 y.2.2.2.1 y.2.2.2.2] 37)) :=
  ⟨(LiesR.new x W).alloc _, by simpa using LiesR.new y (W.alloc (.cells #[.bool x.1, .slice x.2.1.1 x.2.1.2.1 x.2.1.2.2, .slice x.2.2.1 x.2.2.2.1 x.2.2.2.2] 37)), (h.alloc _).alloc _⟩
theorem T2.end0b (h : T2 w W0 b m q x y W) : ToldAt w W0 b m q (W.heap.size + 1, W.heap.size, x, y) ((W.alloc (.cells #[.bool y.1, .slice y.2.1.1 y.2.1.2.1 y.2.1.2.2, .slice y.2.2.1 y.2.2.2.1 y.2.2.2.2] 37)).alloc (.cells #[.bool x.1, .slice x.2.1.1 x.2.1.2.1 x.2.1.2.2, .slice x.2.2.1 x.2.2.2.1 x.2.2.2.2] 37)) :=
  ⟨by simpa using LiesR.new x (W.alloc (.cells #[.bool y.1, .slice y.2.1.1 y.2.1.2.1 y.2.1.2.2, .slice y.2.2.1 y.2.2.2.1 y.2.2.2.2] 37)), (LiesR.new y W).alloc _, (h.alloc _).alloc _⟩
theorem T2.end1a {g : Nat} (h : T2 w W0 b m q x y W) (hb : Blank W g) (hg : W0.heap.size < g) : ToldAt w W0 b m q (g, W.heap.size, x, y) ((Go.Proofs.YtmiocohlklnglaaDoor.set3 W g x.1 (.slice x.2.1.1 x.2.1.2.1 x.2.1.2.2) (.slice x.2.2.1 x.2.2.2.1 x.2.2.2.2)).alloc (.cells #[.bool y.1, .slice y.2.1.1 y.2.1.2.1 y.2.1.2.2, .slice y.2.2.1 y.2.2.2.1 y.2.2.2.2] 37)) :=
  ⟨(LiesR.put hb x).alloc _, by have := LiesR.new y (Go.Proofs.YtmiocohlklnglaaDoor.set3 W g x.1 (.slice x.2.1.1 x.2.1.2.1 x.2.1.2.2) (.slice x.2.2.1 x.2.2.2.1 x.2.2.2.2)); rwa [set3_size] at this, (h.set3 hb hg _ _ _).alloc _⟩
theorem T2.end1b {g : Nat} (h : T2 w W0 b m q x y W) (hb : Blank W g) (hg : W0.heap.size < g) : ToldAt w W0 b m q (W.heap.size, g, x, y) ((Go.Proofs.YtmiocohlklnglaaDoor.set3 W g y.1 (.slice y.2.1.1 y.2.1.2.1 y.2.1.2.2) (.slice y.2.2.1 y.2.2.2.1 y.2.2.2.2)).alloc (.cells #[.bool x.1, .slice x.2.1.1 x.2.1.2.1 x.2.1.2.2, .slice x.2.2.1 x.2.2.2.1 x.2.2.2.2] 37)) :=
  ⟨by have := LiesR.new x (Go.Proofs.YtmiocohlklnglaaDoor.set3 W g y.1 (.slice y.2.1.1 y.2.1.2.1 y.2.1.2.2) (.slice y.2.2.1 y.2.2.2.1 y.2.2.2.2)); rwa [set3_size] at this, (LiesR.put hb y).alloc _, (h.set3 hb hg _ _ _).alloc _⟩
end

/-- The closure's call, in any world of the region. -/
theorem told_do2 {w W0 w1 W : World} {b m : Nat} {q : Rat} {f : FuncId} {p1 p2 : Value} (hw : Below w.heap.size w W0) (eb : b = W0.heap.size) (hb : Bench w1 b m false) (h1 : Below W0.heap.size W0 w1)
    (hdo : ∀ (W : World) (b : Nat), Below w.heap.size w W → Bench W b m false → w.heap.size ≤ b → Calls Tryd.prog f #[.pointer (some ⟨b, 0, none⟩), p1, p2] W (GivesQ b m q W)) (hW : Below w1.heap.size w1 W) :
    Calls Tryd.prog f #[.pointer (some ⟨b, 0, none⟩), p1, p2] W fun e W' => ∃ s x1 l1 k1 x2 l2 k2, e = .returned (.agg #[.bool s, .slice x1 l1 k1, .slice x2 l2 k2]) ∧ Hid (T1 w W0 b m q (s, (x1, l1, k1), (x2, l2, k2)) W') ∧ Hid (W.grownBy W' (some b)) := by
  have hB : Below W0.heap.size W0 W := h1.trans (hW.mono h1.size)
  refine (hdo W b (hw.trans (hB.mono hw.size)) (hb.kept hW) (by have := hw.size; omega)).mono ?_
  rintro e W' ⟨x1, k1, x2, k2, rfl, hx, hbe, hg⟩
  refine ⟨_, x1, _, k1, x2, _, k2, rfl, Lib.hid ⟨⟨rfl, rfl, rfl, hx⟩, hbe, ?_, eb⟩, Lib.hid hg⟩
  exact hB.grown hg hB.size (fun k hk => by cases hk; omega)
/-- As every bench is made. -/
theorem new_for (n : Int) (h : n ≤ 9223372036854775807) : ∃ m : Nat, 1 ≤ m ∧ m ≤ maxLen ∧ max n 1 = (m : Int) ∧ ∀ w, Calls Tryd.prog 44 #[.int .i64 n] w (GivesBench m w) := by
  by_cases h1 : n < 1
  · exact ⟨1, by omega, by unfold maxLen; omega, by omega, fun w => new_low n w h1⟩
  · obtain ⟨m, rfl⟩ : ∃ m : Nat, n = (m : Int) := ⟨n.toNat, by omega⟩
    exact ⟨m, by omega, by unfold maxLen; omega, by omega, fun w => new_high m w (by omega) (by unfold maxLen; omega)⟩
theorem T1.lt {w W0 W : World} {b m : Nat} {q : Rat} {x : RawR} (h : T1 w W0 b m q x W) : W0.heap.size < W.heap.size := by have := h.bench.lt; have := h.eb; omega
theorem T2.lt {w W0 W : World} {b m : Nat} {q : Rat} {x y : RawR} (h : T2 w W0 b m q x y W) : W0.heap.size < W.heap.size := by have := h.bench.lt; have := h.eb; omega
theorem OnlyEx.mk' {ι : Type} {A : ι → Act} {R : ι → World → Prop} {a : Act} {w : World} (h : ∃ i, a = A i ∧ R i w) : OnlyEx A R .normal a w := h
theorem Blank.ne {W : World} {g : Nat} (h : Blank W g) : g ≠ W.heap.size ∧ W.heap.size ≠ g ∧ g < W.heap.size := by
  have := (Array.getElem?_eq_some_iff.1 h).1
  omega
theorem far {w W0 W : World} (h : w.heap.size < W0.heap.size) (hb : Below W0.heap.size W0 W) : w.heap.size ≠ W.heap.size ∧ W.heap.size ≠ w.heap.size ∧ w.heap.size ≠ W.heap.size + 1 ∧ W.heap.size + 1 ≠ w.heap.size := by
  have := hb.size
  omega
theorem blank_second {W : World} (wa : World) (h : Below ((wa.alloc (.cells #[.bool false, .slice none 0 0, .slice none 0 0] 37)).alloc (.cells #[.bool false, .slice none 0 0, .slice none 0 0] 37)).heap.size ((wa.alloc (.cells #[.bool false, .slice none 0 0, .slice none 0 0] 37)).alloc (.cells #[.bool false, .slice none 0 0, .slice none 0 0] 37)) W) : Blank W (wa.heap.size + 1) := by
  refine Blank.kept ?_ h
  have := heap_alloc_new (wa.alloc (.cells #[.bool false, .slice none 0 0, .slice none 0 0] 37)) (.cells #[.bool false, .slice none 0 0, .slice none 0 0] 37)
  simpa [Blank] using this

end Go.Proofs.YtmiocohlklnglaaDoor


/-
  A bench with room enough, and ratios: what its calls give, said of one state.
-/
set_option linter.unusedVariables false
set_option linter.unusedSimpArgs false
namespace Go.Proofs.YtmiocohlklnglaaDoor
open Go.RowKit Rep

theorem L_pos_len {n : Nat} : (L n).length ≤ (L (denN n)).length + 1 := by
  unfold denN
  by_cases h : n = 1
  · rw [if_pos h, h]
    have : (L 1).length ≤ 1 := by rw [L_len]; omega
    omega
  · rw [if_neg h]; omega
theorem denN_le (n : Nat) : denN n ≤ n := by unfold denN; split <;> omega
theorem szQ_mk (s : Bool) (n : Nat) {d k : Nat} (hd : 0 < d) (h1 : (L n).length ≤ k) (h2 : (L d).length ≤ k) : szQ (mkQ s n d) ≤ k := by
  unfold szQ
  rw [mkQ_mg s n hd, mkQ_den s n hd]
  have e1 := L_le h1 (Nat.div_le_self n (Nat.gcd n d))
  have e2 := L_le h2 (Nat.le_trans (denN_le _) (Nat.div_le_self d (Nat.gcd n d)))
  omega
theorem szQ_parts (x : Rat) : (L (mgQ x)).length ≤ szQ x ∧ (L x.den).length ≤ szQ x + 1 := by
  have h := @L_pos_len x.den
  unfold szQ
  omega
theorem sumN_le (s : Bool) (a : Nat) (t : Bool) (b : Nat) : sumN s a t b ≤ a + b := by unfold sumN; split <;> (try split) <;> omega
theorem szQ_add (x y : Rat) : szQ (x + y) ≤ szQ x + szQ y + 3 := by
  obtain ⟨x1, x2⟩ := szQ_parts x
  obtain ⟨y1, y2⟩ := szQ_parts y
  rw [sum_q]
  refine szQ_mk _ _ (Nat.mul_pos (den_pos x) (den_pos y)) ?_ ?_
  · have h1 := L_mul x1 y2
    have h2 := L_mul y1 x2
    have h3 := L_le (L_add h1 h2) (sumN_le (ngQ x) (mgQ x * y.den) (ngQ y) (mgQ y * x.den))
    omega
  · have := L_mul x2 y2; omega
theorem szQ_mul (x y : Rat) : szQ (x * y) ≤ szQ x + szQ y + 3 := by
  obtain ⟨x1, x2⟩ := szQ_parts x
  obtain ⟨y1, y2⟩ := szQ_parts y
  rw [mul_q]
  refine szQ_mk _ _ (Nat.mul_pos (den_pos x) (den_pos y)) ?_ ?_
  · have := L_mul x1 y1; omega
  · have := L_mul x2 y2; omega
theorem szQ_neg (x : Rat) : szQ (-x) = szQ x := by unfold szQ; rw [neg_mg, neg_den]
theorem szQ_sub (x y : Rat) : szQ (x - y) ≤ szQ x + szQ y + 3 := by
  rw [Rat.sub_eq_add_neg]; have := szQ_add x (-y); rw [szQ_neg] at this; exact this
theorem ov_fits {m : Nat} {q : Rat} (h : szQ q ≤ m) : ovQ m q = false ∧ outQ m q = q := by
  have ho : ovQ m q = false := by unfold szQ at h; simp [ovQ, rO]; omega
  exact ⟨ho, by unfold outQ; rw [ho]; rfl⟩

theorem grownBy_trans' {W0 W1 W2 : World} {r : Option Nat} (h : W0.grownBy W1 r) (k : W1.grownBy W2 r) : W0.grownBy W2 r :=
  ⟨k.os.trans h.os, k.tape.trans h.tape, k.output.trans h.output, Nat.le_trans h.size k.size, fun i hi hne => (k.block i (Nat.lt_of_lt_of_le hi h.size) hne).trans (h.block i hi hne)⟩
/-- A ratio's raw parts, and the number that they are. -/
abbrev QV := RawR × Rat
structure OkQ (W : World) (t : QV) : Prop where
  sg : t.1.1 = ngQ t.2
  l1 : t.1.2.1.2.1 = (L (mgQ t.2)).length
  l2 : t.1.2.2.2.1 = (L (denN t.2.den)).length
  at' : AtQ W t.1.2.1.1 t.1.2.1.2.2 t.1.2.2.1 t.1.2.2.2.2 t.2
  sz : szQ t.2 ≤ 1000
theorem OkQ.kept {W W' : World} {t : QV} (h : OkQ W t) (hb : Below W.heap.size W W') : OkQ W' t := ⟨h.sg, h.l1, h.l2, h.at'.kept hb, h.sz⟩
theorem OkQ.bench {W W' : World} {b m : Nat} {o : Bool} {t : QV} (h : OkQ W t) (hb : Bench W b m o) (hg : W.grownBy W' (some b)) : OkQ W' t := ⟨h.sg, h.l1, h.l2, h.at'.bench hb hg, h.sz⟩
/-- A bench that isn't over, a variable that holds it, and ratios. -/
structure StQ (b m pb : Nat) (base W0 W : World) (l : List QV) : Prop where
  g0 : W0.grownBy W (some b)
  bench : Bench W b m false
  below : Below base.heap.size base W
  ge : base.heap.size ≤ b
  tab : Tab W
  cell : W.cell? ⟨pb, 0, none⟩ = some (.pointer (some ⟨b, 0, none⟩))
  pne : pb ≠ b
  vals : ∀ t ∈ l, OkQ W t
theorem StQ.grown {b m pb : Nat} {base W0 W W' : World} {l : List QV} (h : StQ b m pb base W0 W l) (hb : Bench W' b m false) (hg : W.grownBy W' (some b)) : StQ b m pb base W0 W' l :=
  ⟨grownBy_trans' h.g0 hg, hb, h.below.grown hg h.below.size (fun k hk => by cases hk; exact h.ge), h.ge, h.tab.bench h.bench hg, hg.cell h.cell (by simpa using h.pne), h.pne, fun t ht => (h.vals t ht).bench h.bench hg⟩
theorem StQ.kept {b m pb : Nat} {base W0 W W' : World} {l : List QV} (h : StQ b m pb base W0 W l) (hb : Below W.heap.size W W') : StQ b m pb base W0 W' l :=
  ⟨grownBy_trans' h.g0 (grown_of_below hb _), h.bench.kept hb, h.below.trans (hb.mono h.below.size), h.ge, h.tab.kept hb, (hb.cell (p := ⟨pb, 0, none⟩) (World.block_lt_of_cell? _ _ h.cell)).trans h.cell, h.pne, fun t ht => (h.vals t ht).kept hb⟩
theorem StQ.cons {b m pb : Nat} {base W0 W : World} {l : List QV} (h : StQ b m pb base W0 W l) {t : QV} (ht : OkQ W t) : StQ b m pb base W0 W (t :: l) :=
  ⟨h.g0, h.bench, h.below, h.ge, h.tab, h.cell, h.pne, fun u hu => by
    rcases List.mem_cons.1 hu with rfl | hu
    · exact ht
    · exact h.vals u hu⟩
/-- A call gives q, and the state goes on. -/
def GoesQ (b m pb : Nat) (base W0 W : World) (l : List QV) (q : Rat) (e : Ending) (W' : World) : Prop :=
  ∃ s a1 l1 c1 a2 l2 c2, e = .returned (.agg #[.bool s, .slice a1 l1 c1, .slice a2 l2 c2]) ∧ Hid (StQ b m pb base W0 W' (((s, (a1, l1, c1), (a2, l2, c2)), q) :: l) )
theorem GivesQ.goes {b m pb : Nat} {base W0 W W' : World} {l : List QV} {q : Rat} {e : Ending} (hg : GivesQ b m q W e W') (h : StQ b m pb base W0 W l) (h1 : szQ q ≤ m) (h2 : szQ q ≤ 1000) : GoesQ b m pb base W0 W l q e W' := by
  obtain ⟨a1, c1, a2, c2, rfl, f1, f2, f3⟩ := hg
  obtain ⟨o1, o2⟩ := ov_fits h1
  rw [o2] at f1 ⊢
  rw [o1] at f2
  exact ⟨_, _, _, _, _, _, _, rfl, Lib.hid ((h.grown f2 f3).cons ⟨rfl, rfl, rfl, f1, h2⟩)⟩
section
variable {b m pb : Nat} {base W0 W : World} {l : List QV} {s t : Bool} {a1 a2 b1 b2 : Option Addr} {l1 c1 l2 c2 k1 e1 k2 e2 : Nat} {x y : Rat}
theorem StQ.ok (h : StQ b m pb base W0 W l) (hx : ((s, (a1, l1, c1), (a2, l2, c2)), x) ∈ l) : RatX W s a1 l1 c1 a2 l2 c2 (mgQ x) x.den (denN x.den) x ∧ (.agg #[.bool s, .slice a1 l1 c1, .slice a2 l2 c2] : Value) = qV x a1 c1 a2 c2 ∧ AtQ W a1 c1 a2 c2 x ∧ szQ x ≤ 1000 := by
  obtain ⟨h1, h2, h3, h4, h5⟩ := h.vals _ hx
  dsimp only at h1 h2 h3 h4 h5
  subst h1 h2 h3
  exact ⟨h4.x (by omega), rfl, h4, h5⟩
end

/-- What Right tells of a ratio that a law is handed. -/
theorem okq_of_right {W : World} {s : Bool} {a1 a2 : Option Addr} {c1 c2 : Nat} {xs ds : List Nat} (h : HandR W a1 c1 xs a2 c2 ds) (hr : rightB s xs ds = true) (lx : xs.length ≤ 6) (ld : ds.length ≤ 6) :
    ∃ q, OkQ W ((s, (a1, xs.length, c1), (a2, ds.length, c2)), q) ∧ szQ q ≤ 6 := by
  obtain ⟨h1, h2, h3⟩ := of_decide_eq_true hr
  generalize qOf s xs ds = q at *
  have e1 : xs.length = (L (mgQ q)).length := congrArg List.length h2
  have e2 : ds.length = (L (denN q.den)).length := congrArg List.length h3
  have hs : szQ q ≤ 6 := by unfold szQ; omega
  refine ⟨q, ⟨h1, e1, e2, ⟨⟨?_, ?_, h.num.cap⟩, ⟨?_, ?_, h.den.cap⟩⟩, by show szQ q ≤ 1000; omega⟩, hs⟩
  · rw [← h2]; exact h.num.reads
  · rw [← h2]; exact h.num.le
  · rw [← h3]; exact h.den.reads
  · rw [← h3]; exact h.den.le
end Go.Proofs.YtmiocohlklnglaaDoor


/-
  Two of the document's ratios, in blocks of their own.
-/
set_option linter.unusedVariables false
set_option linter.unusedSimpArgs false
namespace Go.Proofs.YtmiocohlklnglaaDoor
open Go.RowKit Rep


theorem D_of_L {n k : Nat} (h : (L n).length ≤ k) : (D n).length ≤ 10 * k := by
  rw [D_len]
  rw [L_len] at h
  refine Nat.lt_of_lt_of_le h ?_
  rw [Nat.pow_mul]
  exact Nat.pow_le_pow_left (by decide) k
theorem dl_q {q : Rat} {k : Nat} (h : szQ q ≤ k) : (D (mgQ q)).length ≤ 10 * k ∧ (D q.den).length ≤ 10 * (k + 1) := by
  obtain ⟨h1, h2⟩ := szQ_parts q
  exact ⟨D_of_L (by omega), D_of_L (by omega)⟩
theorem szQ_inv {x : Rat} : szQ x⁻¹ ≤ szQ x + 1 := by
  by_cases hx : x = 0
  · subst hx
    rw [show ((0 : Rat)⁻¹) = 0 from by grind]
    omega
  · obtain ⟨h1, h2⟩ := szQ_parts x
    rw [← inv_q hx]
    exact szQ_mk _ _ (Nat.pos_of_ne_zero (by rw [Ne, mg_zero]; exact hx)) h2 (by omega)
theorem szQ_div (x y : Rat) : szQ (x / y) ≤ szQ x + szQ y + 4 := by
  have h1 := szQ_mul x y⁻¹
  have h2 := @szQ_inv y
  rw [Rat.div_def]
  omega

/-- Raw parts tell q, in the document's digits. -/
structure VD (q : Rat) (v : RawR) (W : World) : Prop where
  e0 : v.1 = ngQ q
  e1 : v.2.1.2.1 = (D (mgQ q)).length
  e2 : v.2.2.2.1 = (D q.den).length
  lies : DgQ W v.2.1.1 v.2.1.2.2 v.2.2.1 v.2.2.2.2 q
theorem VD.kept {q : Rat} {v : RawR} {W W' : World} (h : VD q v W) (hb : Below W.heap.size W W') : VD q v W' := ⟨h.e0, h.e1, h.e2, h.lies.kept hb⟩
/-- Behind the first call. -/
structure D1 (W0 : World) (q : Rat) (x : RawR) (W : World) : Prop where
  vx : VD q x W
  below : Below W0.heap.size W0 W
/-- Behind both calls. -/
structure D2 (W0 : World) (q r : Rat) (x y : RawR) (W : World) : Prop where
  vx : VD q x W
  vy : VD r y W
  below : Below W0.heap.size W0 W
section
variable {W0 W : World} {q r : Rat} {x y : RawR}
theorem D1.kept {W' : World} (h : D1 W0 q x W) (hb : Below W.heap.size W W') : D1 W0 q x W' := ⟨h.vx.kept hb, h.below.trans (hb.mono h.below.size)⟩
theorem D2.kept {W' : World} (h : D2 W0 q r x y W) (hb : Below W.heap.size W W') : D2 W0 q r x y W' := ⟨h.vx.kept hb, h.vy.kept hb, h.below.trans (hb.mono h.below.size)⟩
theorem D2.alloc (h : D2 W0 q r x y W) (o : Obj) : D2 W0 q r x y (W.alloc o) := h.kept ((Below.refl _ _).alloc (Nat.le_refl _) _)
end
theorem far2 {w W0 W : World} (h : w.heap.size + 1 < W0.heap.size) (hb : Below W0.heap.size W0 W) : w.heap.size ≠ W.heap.size ∧ W.heap.size ≠ w.heap.size ∧ w.heap.size ≠ W.heap.size + 1 ∧ W.heap.size + 1 ≠ w.heap.size ∧ w.heap.size + 1 ≠ W.heap.size ∧ W.heap.size ≠ w.heap.size + 1 ∧ w.heap.size + 1 ≠ W.heap.size + 1 ∧ W.heap.size + 1 ≠ w.heap.size + 1 := by
  have := hb.size
  omega
/-- A call gives q's digits, behind W5. -/
def GotD (W5 : World) (q : Rat) (e : Ending) (W' : World) : Prop :=
  ∃ s z1 m1 k1 z2 m2 k2, e = .returned (.agg #[.bool s, .slice z1 m1 k1, .slice z2 m2 k2]) ∧ Hid (Below W5.heap.size W5 W') ∧ Hid (VD q (s, (z1, m1, k1), (z2, m2, k2)) W')
theorem GivesDQ.got {W5 W W' : World} {q : Rat} {e : Ending} (h : GivesDQ q W e W') (hb : Below W5.heap.size W5 W) : GotD W5 q e W' := by
  obtain ⟨a1, c1, a2, c2, rfl, hd, hb2⟩ := h
  exact ⟨_, a1, _, c1, a2, _, c2, rfl, Lib.hid (hb.trans (hb2.mono hb.size)), Lib.hid ⟨rfl, rfl, rfl, hd⟩⟩
/-- A call gives q's limbs, behind W5. -/
def GotQ (W5 : World) (q : Rat) (e : Ending) (W' : World) : Prop :=
  ∃ s z1 m1 k1 z2 m2 k2, e = .returned (.agg #[.bool s, .slice z1 m1 k1, .slice z2 m2 k2]) ∧ Hid (Below W5.heap.size W5 W') ∧ Hid (VQ q (s, (z1, m1, k1), (z2, m2, k2)) W')
theorem NewQ.got {W5 W W' : World} {q : Rat} {e : Ending} (h : NewQ q W e W') (hb : Below W5.heap.size W5 W) : GotQ W5 q e W' := by
  obtain ⟨a1, c1, a2, c2, rfl, hd, hb2⟩ := h
  exact ⟨_, a1, _, c1, a2, _, c2, rfl, Lib.hid (hb.trans (hb2.mono hb.size)), Lib.hid ⟨rfl, rfl, rfl, hd⟩⟩
/-- A call tells v, behind W5. -/
def GotV (W5 : World) (v : Value) (e : Ending) (W' : World) : Prop := e = .returned v ∧ Hid (Below W5.heap.size W5 W')
theorem VD.eq {q : Rat} {s : Bool} {z1 z2 : Option Addr} {m1 k1 m2 k2 : Nat} {W : World} (h : VD q (s, (z1, m1, k1), (z2, m2, k2)) W) : (.agg #[.bool s, .slice z1 m1 k1, .slice z2 m2 k2] : Value) = dV q z1 k1 z2 k2 ∧ DgQ W z1 k1 z2 k2 q := by
  obtain ⟨h0, h1, h2, h3⟩ := h
  dsimp only at h0 h1 h2 h3
  subst h0 h1 h2
  exact ⟨rfl, h3⟩
theorem VQ.eq {q : Rat} {s : Bool} {z1 z2 : Option Addr} {m1 k1 m2 k2 : Nat} {W : World} (h : VQ q (s, (z1, m1, k1), (z2, m2, k2)) W) : (.agg #[.bool s, .slice z1 m1 k1, .slice z2 m2 k2] : Value) = qV q z1 k1 z2 k2 ∧ AtQ W z1 k1 z2 k2 q := by
  obtain ⟨h0, h1, h2, h3⟩ := h
  dsimp only at h0 h1 h2 h3
  subst h0 h1 h2
  exact ⟨rfl, h3⟩
section
variable {W5 W : World} {q r : Rat} {s t : Bool} {z1 z2 y1 y2 : Option Addr} {m1 k1 m2 k2 n1 j1 n2 j2 : Nat}
end
end Go.Proofs.YtmiocohlklnglaaDoor


/-
  ratio.Right, ratio.Of.
-/
set_option linter.unusedVariables false
set_option linter.unusedSimpArgs false
namespace Go.Proofs.YtmiocohlklnglaaDoor
open Go.RowKit Rep

theorem top_L {xs : List Nat} (hx : Lim xs) (h : topB xs = true) : L (V xs) = xs := by
  refine rep_val (by omega) hx ?_
  unfold Top
  unfold topB at h
  rw [List.getLast?_eq_getElem?]
  rcases Nat.eq_zero_or_pos xs.length with h0 | h0
  · rw [List.length_eq_zero_iff.1 h0]; simp
  · rw [decide_eq_false (p := xs.length = 0) (by omega), Bool.false_or, decide_eq_true_eq] at h
    rw [List.getElem?_eq_getElem (by omega)]
    rw [List.getD_eq_getElem?_getD, List.getElem?_eq_getElem (by omega)] at h
    intro e
    exact h (by simpa using e)
theorem topB_L (n : Nat) : topB (L n) = true := by
  unfold topB
  rcases Nat.eq_zero_or_pos (L n).length with h0 | h0
  · rw [decide_eq_true h0]; rfl
  · have := top_limb (M := n) (by omega)
    rw [decide_eq_true (p := (L n).getD ((L n).length - 1) 0 ≠ 0) (by omega), Bool.or_true]
/-- The one form, by the program's own words. -/
theorem rightB_iff {s : Bool} {xs ds : List Nat} (hx : Lim xs) (hd : Lim ds) : rightB s xs ds = true ↔ (topB xs = true ∧ topB ds = true ∧ ((xs.length = 0 ∧ s = false ∧ ds.length = 0) ∨ (xs.length ≠ 0 ∧ (ds.length = 0 ∨ (ds.length ≠ 0 ∧ V ds ≠ 1 ∧ Nat.gcd (V xs) (V ds) = 1))))) := by
  by_cases hq : topB xs = true ∧ topB ds = true
  · obtain ⟨h1, h2⟩ := hq
    have e1 := top_L hx h1
    have e2 := top_L hd h2
    generalize hn : V xs = n at *
    generalize hm : V ds = m at *
    subst e1 e2
    have z1 : (L n).length = 0 ↔ n = 0 := L_len_zero
    have z2 : (L m).length = 0 ↔ m = 0 := L_len_zero
    rw [z1, z2, Ne, z1, Ne, z2]
    have hD : 0 < (if m = 0 then 1 else m) := by split <;> omega
    have linj : ∀ {a b : Nat}, L a = L b ↔ a = b := fun {a b} => ⟨fun h => by rw [← V_L a, h, V_L], fun h => by rw [h]⟩
    unfold rightB qOf
    rw [hn, hm, decide_eq_true_eq, mkQ_ng _ _ hD, mkQ_mg _ _ hD, mkQ_den _ _ hD, linj, linj]
    by_cases hn0 : n = 0
    · subst hn0
      rw [Nat.gcd_zero_left, Nat.div_self hD, if_pos rfl]
      simp [denN, h1, h2]
    · rw [if_neg hn0]
      by_cases hm0 : m = 0
      · subst hm0
        simp [denN, hn0, h1, h2]
      · rw [if_neg hm0]
        have hg : 0 < Nat.gcd n m := Nat.gcd_pos_of_pos_left _ (by omega)
        have key : n = n / Nat.gcd n m ↔ Nat.gcd n m = 1 := by
          constructor
          · intro e
            rcases Nat.lt_or_ge 1 (Nat.gcd n m) with h | h
            · have := Nat.div_lt_self (n := n) (by omega) h
              omega
            · omega
          · intro e; rw [e, Nat.div_one]
        rw [key]
        constructor
        · rintro ⟨_, g1, g2⟩
          rw [g1, Nat.div_one] at g2
          refine ⟨h1, h2, .inr ⟨hn0, .inr ⟨hm0, ?_, g1⟩⟩⟩
          intro e
          subst e
          simp [denN] at g2
        · rintro ⟨_, _, ⟨h, _⟩ | ⟨_, h | ⟨_, h3, h4⟩⟩⟩
          · exact absurd h hn0
          · exact absurd h hm0
          · refine ⟨rfl, h4, ?_⟩
            rw [h4, Nat.div_one]
            simp [denN, h3]
  · constructor
    · intro h
      obtain ⟨_, h2, h3⟩ := of_decide_eq_true h
      exact absurd ⟨by rw [h2]; exact topB_L _, by rw [h3]; exact topB_L _⟩ hq
    · rintro ⟨h1, h2, _⟩
      exact absurd ⟨h1, h2⟩ hq
theorem eq_of_iff {a b : Bool} (h : a = true ↔ b = true) : a = b := Bool.eq_iff_iff.2 h

theorem NumIn.handed {w : World} {a : Option Addr} {c : Nat} {xs : List Nat} (h : NumIn w a c xs) : Handed w a c xs := ⟨h.lim, h.reads, h.le, h.cap⟩
set_option maxRecDepth 100000 in
set_option maxHeartbeats 8000000 in
theorem RightP_in {w : World} {s : Bool} {a1 a2 : Option Addr} {c1 c2 : Nat} {xs ds : List Nat} (h1 : NumIn w a1 c1 xs) (h2 : NumIn w a2 c2 ds) (hT : Tab w) (lx : xs.length ≤ 1000000) (ld : ds.length ≤ 1000000) :
    Calls Tryd.prog 32 #[.agg #[.bool s, .slice a1 xs.length c1, .slice a2 ds.length c2]] w (GivesB (rightB s xs ds) w) := by
  obtain ⟨W0, hW0⟩ : ∃ W0, W0 = w.alloc (.cells #[.bool s, .slice a1 xs.length c1, .slice a2 ds.length c2] 37) := ⟨_, rfl⟩
  have hB0 : Below w.heap.size w W0 := by rw [hW0]; exact (Below.refl _ _).alloc (Nat.le_refl _) _
  have HK := Lib.hid (keep3 (show W0.heap[w.heap.size]? = some (.cells #[.bool s, .slice a1 xs.length c1, .slice a2 ds.length c2] 37 (0, 0)) by rw [hW0]; exact heap_alloc_new w _))
  have HIFF := Lib.hid (rightB_iff (s := s) h1.lim h2.lim)
  have HR1 : Hid (∀ W, Below W0.heap.size W0 W → Calls Tryd.prog 36 #[.slice a1 xs.length c1] W (Gives (.bool (topB xs)) W)) := Lib.hid fun W hb => Right_any a1 c1 xs W ((h1.kept hB0).kept hb).handed
  have HR2 : Hid (∀ W, Below W0.heap.size W0 W → Calls Tryd.prog 36 #[.slice a2 ds.length c2] W (Gives (.bool (topB ds)) W)) := Lib.hid fun W hb => Right_any a2 c2 ds W ((h2.kept hB0).kept hb).handed
  have HNE : Hid (∀ W, Below W0.heap.size W0 W → NumE W a1 xs.length c1 (V xs) ∧ NumE W a2 ds.length c2 (V ds) ∧ Tab W) := Lib.hid fun W hb => ⟨.inn (((h1.kept hB0).kept hb)), .inn (((h2.kept hB0).kept hb)), (hT.kept hB0).kept hb⟩
  have HB0 := Lib.hid hB0
  have HW0 := Lib.hid hW0
  obtain ⟨p0, p1, p2, _⟩ := HK.out W0 (Below.refl _ _)
  clear h1 h2 hT hB0 hW0
  generalize topB xs = tx at *
  generalize topB ds = td at *
  go_enter Tryd.func32, Tryd.ntmps32
  go_wp2_with fail
  rw [← HW0.out]
  go_quiet (fail)
  have hbd : Below W0.heap.size W0 (W0.drewN nq) := Below.drewN' (Below.refl _ _) nq
  have HBD := Lib.hid hbd
  clear hbd
  obtain ⟨p0, p1, p2, _⟩ := HK.out _ HBD.out
  cases tx
  case false =>
    have HE : Hid (rightB s xs ds = false) := Lib.hid (by rw [Bool.eq_false_iff]; intro h; have := (HIFF.out.1 h).1; cases this)
    go_wp2_with fail
    refine (HR1.out _ HBD.out).mono ?_
    rintro e w1 ⟨rfl, rfl⟩
    go_wp2_with fail
    go_ret
    exact ⟨by rw [HE.out]; rfl, HB0.out.trans (HBD.out.mono HB0.out.size)⟩
  case true =>
  have HBW := Lib.hid (HB0.out.trans (HBD.out.mono HB0.out.size))
  generalize W0.drewN nq = W1 at *
  go_wp2_with fail
  refine (HR1.out _ HBD.out).mono ?_
  rintro e w1 ⟨rfl, rfl⟩
  cases td
  case false =>
    have HE : Hid (rightB s xs ds = false) := Lib.hid (by rw [Bool.eq_false_iff]; intro h; have := (HIFF.out.1 h).2.1; cases this)
    go_wp2_with fail
    refine (HR2.out _ HBD.out).mono ?_
    rintro e w1 ⟨rfl, rfl⟩
    go_wp2_with fail
    go_ret
    exact ⟨by rw [HE.out]; rfl, HBW.out⟩
  case true =>
  go_wp2_with fail
  refine (HR2.out _ HBD.out).mono ?_
  rintro e w1 ⟨rfl, rfl⟩
  rcases Nat.eq_zero_or_pos xs.length with h0 | h0
  · have hz : ((xs.length : Int) == 0) = true := by rw [h0]; rfl
    cases s
    case true =>
      have HE : Hid (rightB true xs ds = false) := Lib.hid (by
        rw [Bool.eq_false_iff]; intro h
        rcases (HIFF.out.1 h).2.2 with ⟨_, h2, _⟩ | ⟨h2, _⟩
        · cases h2
        · exact h2 h0)
      clear h0
      go_wp2_with fail
      go_ret
      exact ⟨by rw [HE.out]; rfl, HBW.out⟩
    case false =>
      have HE : Hid (rightB false xs ds = decide (ds.length = 0)) := Lib.hid (by
        refine eq_of_iff (HIFF.out.trans ?_)
        rw [decide_eq_true_eq]
        constructor
        · rintro ⟨_, _, ⟨_, _, h⟩ | ⟨h, _⟩⟩
          · exact h
          · exact absurd h0 h
        · intro h
          exact ⟨by trivial, by trivial, .inl ⟨h0, rfl, h⟩⟩)
      clear h0
      by_cases hd : ds.length = 0
      · have hz2 : ((ds.length : Int) == 0) = true := by rw [hd]; rfl
        rw [decide_eq_true hd] at HE
        clear hd
        go_wp2_with fail
        go_ret
        exact ⟨by rw [HE.out]; rfl, HBW.out⟩
      · have hz2 : ((ds.length : Int) == 0) = false := cast_beq_no hd
        rw [decide_eq_false hd] at HE
        clear hd
        go_wp2_with fail
        go_ret
        exact ⟨by rw [HE.out]; rfl, HBW.out⟩
  · have hz : ((xs.length : Int) == 0) = false := cast_beq_no (by omega)
    by_cases hd : ds.length = 0
    · have hz2 : ((ds.length : Int) == 0) = true := by rw [hd]; rfl
      have HE : Hid (rightB s xs ds = true) := Lib.hid (HIFF.out.2 ⟨by trivial, by trivial, .inr ⟨by omega, .inl hd⟩⟩)
      clear hd h0
      go_wp2_with fail
      go_ret
      exact ⟨by rw [HE.out]; rfl, HBW.out⟩
    · have hz2 : ((ds.length : Int) == 0) = false := cast_beq_no hd
      have HI := Lib.hid (isOne_any (HNE.out _ HBD.out).2.1)
      by_cases h1 : V ds = 1
      · have HE : Hid (rightB s xs ds = false) := Lib.hid (by
          rw [Bool.eq_false_iff]; intro h
          rcases (HIFF.out.1 h).2.2 with ⟨h2, _⟩ | ⟨_, h2 | ⟨_, h2, _⟩⟩
          · omega
          · exact hd h2
          · exact h2 h1)
        rw [decide_eq_true h1] at HI
        clear hd h0 h1
        go_wp2_with fail
        refine HI.out.mono ?_
        rintro e w2 ⟨rfl, hb2⟩
        have HE2 := Lib.hid (HBW.out.trans (hb2.mono HBW.out.size))
        clear hb2 HI
        go_wp2_with fail
        go_ret
        exact ⟨by rw [HE.out]; rfl, HE2.out⟩
      · have HE : Hid (rightB s xs ds = decide (Nat.gcd (V xs) (V ds) = 1)) := Lib.hid (by
          refine eq_of_iff (HIFF.out.trans ?_)
          rw [decide_eq_true_eq]
          constructor
          · rintro ⟨_, _, ⟨h, _⟩ | ⟨_, h | ⟨_, _, h⟩⟩⟩
            · omega
            · exact absurd h hd
            · exact h
          · intro h
            exact ⟨by trivial, by trivial, .inr ⟨by omega, .inr ⟨hd, h1, h⟩⟩⟩)
        rw [decide_eq_false h1] at HI
        clear hd h0 h1
        go_wp2_with fail
        refine HI.out.mono ?_
        rintro e w2 ⟨rfl, hb2⟩
        have hb12 := HBD.out.trans (hb2.mono HBD.out.size)
        obtain ⟨x1, x2, x3⟩ := HNE.out _ hb12
        have HC := Lib.hid (common_any x1 x2 x3 (by omega) (by omega))
        have HB2 := Lib.hid (HBW.out.trans (hb2.mono HBW.out.size))
        clear hb2 hb12 x1 x2 x3 HI
        go_wp2_with fail
        refine HC.out.mono ?_
        rintro e w3 ⟨a3, l3, c3, rfl, hn3, _, hb3⟩
        have HI3 := Lib.hid (isOne_any hn3)
        have HB3 := Lib.hid (HB2.out.trans (hb3.mono HB2.out.size))
        clear hn3 hb3 HC HB2
        go_wp2_with fail
        refine HI3.out.mono ?_
        rintro e w4 ⟨rfl, hb4⟩
        have HB4 := Lib.hid (HB3.out.trans (hb4.mono HB3.out.size))
        clear hb4
        go_wp2_with fail
        go_ret
        exact ⟨by rw [HE.out]; rfl, HB4.out⟩
theorem RightP_any {w : World} {s : Bool} {a1 a2 : Option Addr} {c1 c2 : Nat} {xs ds : List Nat} (h : HandR w a1 c1 xs a2 c2 ds) (hT : Tab w) (lx : xs.length ≤ 12) (ld : ds.length ≤ 12) :
    Calls Tryd.prog 32 #[.agg #[.bool s, .slice a1 xs.length c1, .slice a2 ds.length c2]] w (GivesB (rightB s xs ds) w) :=
  RightP_in (h.num.inn (by omega)) (h.den.inn (by omega)) hT (by omega) (by omega)
end Go.Proofs.YtmiocohlklnglaaDoor

