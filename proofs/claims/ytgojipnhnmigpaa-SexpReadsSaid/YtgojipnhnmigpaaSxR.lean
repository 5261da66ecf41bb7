/-
  Layer 8, the document's: list, Read.
-/
import Derived.Test.YtgojipnhnmigpaaSxE
set_option linter.unusedVariables false
set_option linter.unusedSimpArgs false
namespace Go.Proofs.Ytgojipnhnmigpaa
open Go.RowKit Sx

/-- Such blocks as a row may reach: not its own. -/
def Mine (B : Nat) (v : Value) (k : Nat) : Prop := B ≤ k ∧ v.ownBlock ≠ some k
/-- One expression more. -/
theorem RowS.snoc {W W' : World} {B : Nat} {v v' kv : Value} {y k : Fo} {C : List Value} {l : Bool} {t : Tk} (hC : FoAt W (Mine B v) y C) (hk : SlAt W (Mine B v) kv k)
    (hown : W'.ownsRow B 38 5 v' (y.len + 1) (C ++ sx5 l t kv)) (hg : W.grownBy W' v.ownBlock) (hnew : ∀ j, v'.ownBlock = some j → v.ownBlock = some j ∨ W.heap.size ≤ j) : RowS W' B (Mine B v') v' (y.app (.one l t k)) := by
  have hc : Chg (fun k => v.ownBlock = some k) W W' := .of_grown hg (fun k hk => hk)
  have hS : ∀ k, Mine B v k → k < W.heap.size → ¬ v.ownBlock = some k := fun k h _ => h.2
  have hG : ∀ k, Mine B v k → k < W.heap.size → Mine B v' k := fun k h hk => ⟨h.1, fun e => by
    rcases hnew k e with e | e
    · exact h.2 e
    · omega⟩
  exact ⟨_, by rw [Fo.len_snoc]; exact hown, (hC.turn hc hS hG).app (.single (hk.turn hc hS hG))⟩
theorem RowS.old {W W' : World} {B : Nat} {F : Nat → Prop} {v : Value} {y : Fo} (h : RowS W B F v y) (hb : Below W.heap.size W W') : RowS W' B F v y := h.turn (.of_below (S := fun _ => False) hb) (fun _ _ h => h) (fun _ _ _ h => h) (fun _ h _ => h)
/-- What the document's list comes to. -/
def ListIs (ts : List Tk) (i d : Nat) (w : World) (e : Ending) (w' : World) : Prop := Below w.heap.size w w' ∧
  ((∃ k p, k ≠ 0 ∧ e = .returned (.tuple #[.slice none 0 0, .int .i64 0, .int .i64 k, .int .i64 p]) ∧ ∀ (f : Fr) (r : List Fr), r.length = d → runF (f :: r) (ts.drop i) = .error (k, p)) ∨
   (∃ (v : Value) (y : Fo) (j : Nat), e = .returned (.tuple #[v, .int .i64 (j : Int), .int .i64 0, .int .i64 0]) ∧ i ≤ j ∧ j ≤ ts.length ∧ (j = ts.length ∨ ∃ t, ts[j]? = some t ∧ t.k = 2) ∧ SlAt w' (fun k => w.heap.size ≤ k) v y ∧ y.len ≤ ts.length ∧
      ∀ (f : Fr) (r : List Fr), r.length = d → runF (f :: r) (ts.drop i) = runF (f.put y :: r) (ts.drop j)))
/-- Within the call. -/
structure LSt (w : World) (ts : List Tk) (i d : Nat) (W : World) (v : Value) (y : Fo) (j : Nat) : Prop where
  row : RowS W w.heap.size (Mine w.heap.size v) v y
  below : Below w.heap.size w W
  ge : i ≤ j
  le : j ≤ ts.length
  few : y.len + i ≤ j
  says : ∀ (f : Fr) (r : List Fr), r.length = d → runF (f :: r) (ts.drop i) = runF (f.put y :: r) (ts.drop j)
section
variable {w W W' : World} {ts : List Tk} {i j d : Nat} {v : Value} {y : Fo}
theorem LSt.kept (h : LSt w ts i d W v y j) (hb : Below W.heap.size W W') : LSt w ts i d W' v y j := ⟨h.row.old hb, h.below.trans (hb.mono h.below.size), h.ge, h.le, h.few, h.says⟩
theorem put_nil (f : Fr) : f.put .nil = f := by cases f; simp [Fr.put, Fo.app_nil]
theorem put_put (f : Fr) (x y : Fo) : (f.put x).put y = f.put (x.app y) := by simp [Fr.put, Fo.app_assoc]
theorem drop_at {t : Tk} (h : ts[j]? = some t) : ts.drop j = t :: ts.drop (j + 1) := by
  obtain ⟨hlt, he⟩ := List.getElem?_eq_some_iff.1 h
  rw [List.drop_eq_getElem_cons hlt, he]
theorem LSt.new (w : World) (hi : i ≤ ts.length) : LSt w ts i d (w.alloc (.cells #[] 38)) (.slice (some ⟨w.heap.size, 0, none⟩) 0 0) .nil i :=
  ⟨⟨[], World.ownsRow_lit w #[] 0 (Nat.le_refl _) (by unfold maxLen; omega) rfl, rfl⟩, (Below.refl _ _).alloc (Nat.le_refl _) _, Nat.le_refl _, hi, by simp [Fo.len], fun f r _ => by rw [put_nil]⟩
/-- The row's block is the row's alone. -/
theorem LSt.far (h : LSt w ts i d W v y j) {k : Nat} (hk : W.heap.size ≤ k) : Mine w.heap.size v k := ⟨Nat.le_trans h.below.size hk, fun e => by have := (h.row.lt k e).2; omega⟩
theorem LSt.one (h : LSt w ts i d W v y j) {l : Bool} {t : Tk} {kv : Value} {k : Fo} {C : List Value} {v' : Value} {j' : Nat} (hC : FoAt W (Mine w.heap.size v) y C) (hk : SlAt W (Mine w.heap.size v) kv k)
    (hown : W'.ownsRow w.heap.size 38 5 v' (y.len + 1) (C ++ sx5 l t kv)) (hg : W.grownBy W' v.ownBlock) (hnew : ∀ j, v'.ownBlock = some j → v.ownBlock = some j ∨ W.heap.size ≤ j) (hj : j < j') (hj' : j' ≤ ts.length)
    (hs : ∀ (f : Fr) (r : List Fr), r.length = d → runF (f :: r) (ts.drop j) = runF (f.put (.one l t k) :: r) (ts.drop j')) : LSt w ts i d W' v' (y.app (.one l t k)) j' := by
  refine ⟨RowS.snoc hC hk hown hg hnew, ?_, by have := h.ge; omega, hj', by rw [Fo.len_snoc]; have := h.few; omega, fun f r hr => by rw [h.says f r hr, hs _ r hr, put_put]⟩
  have hc : Chg (fun k => v.ownBlock = some k) W W' := .of_grown hg (fun k hk => hk)
  exact h.below.trans (hc.below (fun k hk => (h.row.lt k hk).1) h.below.size)
end
theorem meas_wrap {j j2 L : Nat} {z : Int} (hz : z = (j2 : Int) + 1) (h1 : j < j2 + 1) (h2 : j2 < L) : L - (intOf (Value.int .i64 z)).toNat < L - (intOf (Value.int .i64 (j : Int))).toNat := by
  subst hz
  have e : ((j2 : Int) + 1).toNat = j2 + 1 := by omega
  simp only [intOf]
  rw [e, Int.toNat_natCast]
  omega
theorem build_sub {o : Oper} {a : Act} {w : World} {x y : Operand} {K P : Int} {T : ByteArray} {A : Option Addr} {n c : Nat} (ho : o.op = .build 38 #[(0, .const (.bool true)), (1, x), (2, y)]) (hx : a.eval x = .agg #[.int .i64 K, .string T, .int .i64 P]) (hy : a.eval y = .slice A n c) :
    (execOp a.eval o).run Try.prog w = .ok (.value (.agg #[.bool true, .int .i64 K, .string T, .int .i64 P, .slice A n c])) w := by
  have hz := (zero_of_info zero_sexp).1 w
  have e1 : ∀ w, (sizeOf 4).run Try.prog w = .ok 1 w := fun w => size_of (by kernel_rfl) w
  have e3 : ∀ w, (sizeOf 35).run Try.prog w = .ok 3 w := fun w => size_of (by kernel_rfl) w
  have e4 : ∀ w, (sizeOf 24).run Try.prog w = .ok 1 w := fun w => size_of (by kernel_rfl) w
  have : (Instr.build 38 #[(0, .bool true), (1, .agg #[.int .i64 K, .string T, .int .i64 P]), (2, .slice A n c)]).run Try.prog w = .ok (.agg #[.bool true, .int .i64 K, .string T, .int .i64 P, .slice A n c]) w := by
    simp [Instr.build, hz, run_underlying Try.underlying38, e1, e3, e4, Instr.fill, Value.cells]
  have hc : a.eval (.const (.bool true)) = .bool true := rfl
  unfold execOp
  simp [ho, hx, hy, hc, this]
section
variable {ts : List Tk} {c : Nat} {a : Option Addr}
set_option maxRecDepth 100000 in
set_option maxHeartbeats 16000000 in
theorem list_any (hl : ts.length ≤ 100000) : ∀ (n : Nat) (w : World) (i d : Nat), ts.length - i = n → i ≤ ts.length → d ≤ 1000 → TksAt w a ts → Calls Try.prog 16 #[.slice a ts.length c, .int .i64 (i : Int), .int .i64 (d : Int)] w (ListIs ts i d w) := by
  intro n
  induction n using Nat.strongRecOn with
  | _ n ih =>
  intro w i d hn hi hd hin
  have HIH : Hid (∀ (W : World) (j : Nat), i ≤ j → j < ts.length → d < 1000 → TksAt W a ts → Calls Try.prog 16 #[.slice a ts.length c, .int .i64 ((j : Int) + 1), .int .i64 ((d : Int) + 1)] W (ListIs ts (j + 1) (d + 1) W)) :=
    Lib.hid fun W j h1 h2 h3 h4 => ih (ts.length - (j + 1)) (by omega) W (j + 1) (d + 1) rfl (by omega) (by omega) h4
  have HIN := Lib.hid hin
  have HST := Lib.hid (LSt.new (d := d) w hi)
  obtain ⟨L, hL⟩ : ∃ L, ts.length = L := ⟨_, rfl⟩
  have HL := Lib.hid hL
  have hLs : (L : Int) ≤ 100000 := by omega
  have hd' : (d : Int) ≤ 1000 := by omega
  rw [hL] at HIH ⊢
  have HD := Lib.hid hd
  clear ih hn hi hin hl hL hd
  go_enter Try.func16, Try.ntmps16
  go_wp2_with fail
  go_loopw [1, 10] (fun (iv ov : Value) (wr : World) => ∃ (j : Nat) (y : Fo), iv = .int .i64 (j : Int) ∧ Hid (LSt w ts i d wr ov y j)) (fun iv _ _ => L - (intOf iv).toNat)
  case atStart => exact ⟨i, .nil, rfl, HST⟩
  case round =>
    obtain ⟨j, y, rfl, HK⟩ := hrel
    clear HST
    by_cases hjL : j < L
    · obtain ⟨⟨K, T, P⟩, ht⟩ : ∃ t, ts[j]? = some t := ⟨_, List.getElem?_eq_getElem (by rw [HL.out]; exact hjL)⟩
      have HT := Lib.hid ht
      obtain ⟨g, off, rfl, hx⟩ := (HIN.out.kept HK.out.below).get ht
      have hx' : wr.rangeAt g (off + j * 3) [.int .i64 K, .string T, .int .i64 P] := hx
      have c0 : wr.cell? ⟨g, off + j * 3, none⟩ = some (.int .i64 K) := hx' 0 _ rfl
      have c2 : wr.cell? ⟨g, off + j * 3 + 2, none⟩ = some (.int .i64 P) := hx' 2 _ rfl
      have HX := Lib.hid hx'
      have hjL' : (j : Int) < (L : Int) := by omega
      have hjw : wrap64 ((j : Int) + 1) = (j : Int) + 1 := IntWalk.wrap64_in _ (by omega)
      have hdw : wrap64 ((d : Int) + 1) = (d : Int) + 1 := IntWalk.wrap64_in _ (by omega)
      clear hx hx' ht
      by_cases h2 : K = 2
      · have HEND : Hid (ListIs ts i d w (.returned (.tuple #[u10, .int .i64 (j : Int), .int .i64 0, .int .i64 0])) wr) := Lib.hid ⟨HK.out.below, .inr ⟨u10, y, j, rfl, HK.out.ge, HK.out.le, .inr ⟨_, HT.out, h2⟩, HK.out.row.slice (fun k h _ => h.1) (fun k h => (HK.out.row.lt k h).1), by have := HK.out.few; have := HK.out.le; omega, HK.out.says⟩⟩
        subst h2
        go_wp2_with fail
        refine bodyPost_ret (v := .tuple #[u10, .int .i64 (j : Int), .int .i64 0, .int .i64 0]) ?_ rfl HEND.out
        simp [results, Try.results16, Act.put]
      · have h2' : (K == 2) = false := by simpa using h2
        by_cases h1 : K = 1
        · subst h1
          by_cases hd1 : d = 1000
          · subst hd1
            have HBAD : Hid (ListIs ts i 1000 w (.returned (.tuple #[.slice none 0 0, .int .i64 0, .int .i64 18, .int .i64 P])) wr.drew) := Lib.hid ⟨HK.out.below.drew, .inl ⟨18, P, by simp, rfl, fun f r hr => by rw [HK.out.says f r hr, drop_at HT.out, run_bad (step_deep rfl (by simp [hr]))]⟩⟩
            go_wp2_with fail
            refine wp_region_held_drew (S := (fun w' => w'.cell? ⟨g, off + j * 3 + 2, none⟩ = some (.int .i64 P))) (by kernel_rfl) ?_ (fun hHeld => ?_)
            · exact c2
            refine wpAnyH_take (i := 0) (v := ?_) (by rfl) (by kernel_rfl) (by kernel_rfl) (by kernel_rfl) (by exact fun _ _ _ h => h) (Or.inl ⟨by rfl, ?_⟩) hHeld ?_
            rotate_left 1
            · intro w' hSw
              (try dsimp only at hSw)
              go_simp
              try with_reducible rfl
            try simp only [Act.put, List.setIfInBounds_toArray, List.set_cons_zero, List.set_cons_succ, List.getElem_toArray, List.getElem_cons_zero, List.getElem_cons_succ]
            refine wpAnyH_take (i := 1) (v := ?_) (by rfl) (by kernel_rfl) (by kernel_rfl) (by kernel_rfl) (by exact fun _ _ _ h => h) (Or.inl ⟨by rfl, ?_⟩) hHeld ?_
            rotate_left 1
            · intro w' hSw
              (try dsimp only at hSw)
              go_simp
              try with_reducible rfl
            try simp only [Act.put, List.setIfInBounds_toArray, List.set_cons_zero, List.set_cons_succ, List.getElem_toArray, List.getElem_cons_zero, List.getElem_cons_succ]
            refine wpAnyH_take (i := 2) (v := ?_) (by rfl) (by kernel_rfl) (by kernel_rfl) (by kernel_rfl) (by exact fun _ _ _ h => h) (Or.inl ⟨by rfl, ?_⟩) hHeld ?_
            rotate_left 1
            · intro w' hSw
              (try dsimp only at hSw)
              go_simp
              try with_reducible rfl
            try simp only [Act.put, List.setIfInBounds_toArray, List.set_cons_zero, List.set_cons_succ, List.getElem_toArray, List.getElem_cons_zero, List.getElem_cons_succ]
            refine wpAnyH_take (i := 3) (v := ?_) (by rfl) (by kernel_rfl) (by kernel_rfl) (by kernel_rfl) (by exact fun _ _ _ h => h) (Or.inl ⟨by rfl, ?_⟩) hHeld ?_
            rotate_left 1
            · intro w' hSw
              (try dsimp only at hSw)
              go_simp
              try with_reducible rfl
            try simp only [Act.put, List.setIfInBounds_toArray, List.set_cons_zero, List.set_cons_succ, List.getElem_toArray, List.getElem_cons_zero, List.getElem_cons_succ]
            refine wpAnyH_take (i := 4) (v := .int .i64 P) (by rfl) (by kernel_rfl) (by kernel_rfl) (by kernel_rfl) (by exact fun _ _ _ h => h) (Or.inl ⟨by rfl, ?_⟩) hHeld ?_
            · intro w' hSw
              exact load_int (.tmp 49) rfl rfl hSw
            try simp only [Act.put, List.setIfInBounds_toArray, List.set_cons_zero, List.set_cons_succ, List.getElem_toArray, List.getElem_cons_zero, List.getElem_cons_succ]
            refine wpAnyH_take (i := 5) (v := ?_) (by rfl) (by kernel_rfl) (by kernel_rfl) (by kernel_rfl) (by exact fun _ _ _ h => h) (Or.inl ⟨by rfl, ?_⟩) hHeld ?_
            rotate_left 1
            · intro w' hSw
              (try dsimp only at hSw)
              go_simp
              try with_reducible rfl
            try simp only [Act.put, List.setIfInBounds_toArray, List.set_cons_zero, List.set_cons_succ, List.getElem_toArray, List.getElem_cons_zero, List.getElem_cons_succ]
            refine wpAnyH_take (i := 6) (v := ?_) (by rfl) (by kernel_rfl) (by kernel_rfl) (by kernel_rfl) (by exact fun _ _ _ h => h) (Or.inl ⟨by rfl, ?_⟩) hHeld ?_
            rotate_left 1
            · intro w' hSw
              (try dsimp only at hSw)
              go_simp
              try with_reducible rfl
            try simp only [Act.put, List.setIfInBounds_toArray, List.set_cons_zero, List.set_cons_succ, List.getElem_toArray, List.getElem_cons_zero, List.getElem_cons_succ]
            refine wpAnyH_take (i := 7) (v := ?_) (by rfl) (by kernel_rfl) (by kernel_rfl) (by kernel_rfl) (by exact fun _ _ _ h => h) (Or.inl ⟨by rfl, ?_⟩) hHeld ?_
            rotate_left 1
            · intro w' hSw
              (try dsimp only at hSw)
              go_simp
              try with_reducible rfl
            try simp only [Act.put, List.setIfInBounds_toArray, List.set_cons_zero, List.set_cons_succ, List.getElem_toArray, List.getElem_cons_zero, List.getElem_cons_succ]
            refine wpAnyH_take (i := 8) (v := ?_) (by rfl) (by kernel_rfl) (by kernel_rfl) (by kernel_rfl) (by exact fun _ _ _ h => h) (Or.inl ⟨by rfl, ?_⟩) hHeld ?_
            rotate_left 1
            · intro w' hSw
              (try dsimp only at hSw)
              go_simp
              try with_reducible rfl
            try simp only [Act.put, List.setIfInBounds_toArray, List.set_cons_zero, List.set_cons_succ, List.getElem_toArray, List.getElem_cons_zero, List.getElem_cons_succ]
            refine wpAnyH_done (by kernel_rfl) ?_ _
            clear hHeld
            go_wp2_with fail
            refine bodyPost_ret (v := .tuple #[.slice none 0 0, .int .i64 0, .int .i64 18, .int .i64 P]) ?_ rfl HBAD.out
            simp [results, Try.results16, Act.put]
          · have hdlt : d < 1000 := by have := HD.out; omega
            have hd1' : ((d : Int) == 1000) = false := by simp; omega
            have HC := Lib.hid (HIH.out wr j HK.out.ge hjL hdlt (HIN.out.kept HK.out.below))
            clear hd1
            go_wp2_with fail
            refine HC.out.mono ?_
            rintro e w5 ⟨hb5, ⟨k, p, hk0, rfl, hsay⟩ | ⟨v2, y2, j2, rfl, hge, hle, hat, hsl, hfew, hsay⟩⟩
            · have hk0' : (k == 0) = false := by simpa using hk0
              have HBAD : Hid (ListIs ts i d w (.returned (.tuple #[.slice none 0 0, .int .i64 0, .int .i64 k, .int .i64 p])) w5) := Lib.hid ⟨HK.out.below.trans (hb5.mono HK.out.below.size), .inl ⟨k, p, hk0, rfl, fun f r hr => by rw [HK.out.says f r hr, drop_at HT.out, run_ok (step_open rfl (by simp [hr]; omega)), hsay _ _ (by simp [hr])]⟩⟩
              clear hk0 hsay hb5 HC
              go_wp2_with fail
              refine bodyPost_ret (v := .tuple #[.slice none 0 0, .int .i64 0, .int .i64 k, .int .i64 p]) ?_ rfl HBAD.out
              simp [results, Try.results16, Act.put]
            · have c5 : w5.cell? ⟨g, off + j * 3 + 2, none⟩ = some (.int .i64 P) := (hb5.cell (p := ⟨g, off + j * 3 + 2, none⟩) (World.block_lt_of_cell? _ _ c2)).trans c2
              have HX5 : Hid (w5.rangeAt g (off + j * 3) [.int .i64 1, .string T, .int .i64 P]) := Lib.hid fun q u hu => (hb5.cell (p := ⟨g, off + j * 3 + q, none⟩) (World.block_lt_of_cell? _ _ (HX.out q u hu))).trans (HX.out q u hu)
              have HBW := Lib.hid (HK.out.below.trans (hb5.mono HK.out.below.size))
              have hopen : ∀ (f : Fr) (r : List Fr), r.length = d → runF (f :: r) (ts.drop j) = runF (Fr.put ⟨true, ⟨1, T, P⟩, .nil⟩ y2 :: f :: r) (ts.drop j2) := fun f r hr => by rw [drop_at HT.out, run_ok (step_open rfl (by simp [hr]; omega)), hsay _ _ (by simp [hr])]
              have HO := Lib.hid hopen
              by_cases hj2 : j2 = L
              · have HBAD : Hid (ListIs ts i d w (.returned (.tuple #[.slice none 0 0, .int .i64 0, .int .i64 11, .int .i64 P])) w5.drew) := Lib.hid ⟨HBW.out.drew, .inl ⟨11, P, by simp, rfl, fun f r hr => by rw [HK.out.says f r hr, hopen _ r hr, hj2, List.drop_eq_nil_of_le (by rw [HL.out]; exact Nat.le_refl _)]; rfl⟩⟩
                subst hj2
                have HC5 := Lib.hid c5
                clear hsay hopen hat hsl hge hle hfew hb5 c5 HC
                go_wp2_with fail
                refine wp_region_held_drew (S := (fun w' => w'.cell? ⟨g, off + j * 3 + 2, none⟩ = some (.int .i64 P))) (by kernel_rfl) ?_ (fun hHeld => ?_)
                · exact HC5.out
                refine wpAnyH_take (i := 0) (v := ?_) (by rfl) (by kernel_rfl) (by kernel_rfl) (by kernel_rfl) (by exact fun _ _ _ h => h) (Or.inl ⟨by rfl, ?_⟩) hHeld ?_
                rotate_left 1
                · intro w' hSw
                  (try dsimp only at hSw)
                  go_simp
                  try with_reducible rfl
                try simp only [Act.put, List.setIfInBounds_toArray, List.set_cons_zero, List.set_cons_succ, List.getElem_toArray, List.getElem_cons_zero, List.getElem_cons_succ]
                refine wpAnyH_take (i := 1) (v := ?_) (by rfl) (by kernel_rfl) (by kernel_rfl) (by kernel_rfl) (by exact fun _ _ _ h => h) (Or.inl ⟨by rfl, ?_⟩) hHeld ?_
                rotate_left 1
                · intro w' hSw
                  (try dsimp only at hSw)
                  go_simp
                  try with_reducible rfl
                try simp only [Act.put, List.setIfInBounds_toArray, List.set_cons_zero, List.set_cons_succ, List.getElem_toArray, List.getElem_cons_zero, List.getElem_cons_succ]
                refine wpAnyH_take (i := 2) (v := ?_) (by rfl) (by kernel_rfl) (by kernel_rfl) (by kernel_rfl) (by exact fun _ _ _ h => h) (Or.inl ⟨by rfl, ?_⟩) hHeld ?_
                rotate_left 1
                · intro w' hSw
                  (try dsimp only at hSw)
                  go_simp
                  try with_reducible rfl
                try simp only [Act.put, List.setIfInBounds_toArray, List.set_cons_zero, List.set_cons_succ, List.getElem_toArray, List.getElem_cons_zero, List.getElem_cons_succ]
                refine wpAnyH_take (i := 3) (v := ?_) (by rfl) (by kernel_rfl) (by kernel_rfl) (by kernel_rfl) (by exact fun _ _ _ h => h) (Or.inl ⟨by rfl, ?_⟩) hHeld ?_
                rotate_left 1
                · intro w' hSw
                  (try dsimp only at hSw)
                  go_simp
                  try with_reducible rfl
                try simp only [Act.put, List.setIfInBounds_toArray, List.set_cons_zero, List.set_cons_succ, List.getElem_toArray, List.getElem_cons_zero, List.getElem_cons_succ]
                refine wpAnyH_take (i := 4) (v := .int .i64 P) (by rfl) (by kernel_rfl) (by kernel_rfl) (by kernel_rfl) (by exact fun _ _ _ h => h) (Or.inl ⟨by rfl, ?_⟩) hHeld ?_
                · intro w' hSw
                  exact load_int (.tmp 73) rfl rfl hSw
                try simp only [Act.put, List.setIfInBounds_toArray, List.set_cons_zero, List.set_cons_succ, List.getElem_toArray, List.getElem_cons_zero, List.getElem_cons_succ]
                refine wpAnyH_take (i := 5) (v := ?_) (by rfl) (by kernel_rfl) (by kernel_rfl) (by kernel_rfl) (by exact fun _ _ _ h => h) (Or.inl ⟨by rfl, ?_⟩) hHeld ?_
                rotate_left 1
                · intro w' hSw
                  (try dsimp only at hSw)
                  go_simp
                  try with_reducible rfl
                try simp only [Act.put, List.setIfInBounds_toArray, List.set_cons_zero, List.set_cons_succ, List.getElem_toArray, List.getElem_cons_zero, List.getElem_cons_succ]
                refine wpAnyH_take (i := 6) (v := ?_) (by rfl) (by kernel_rfl) (by kernel_rfl) (by kernel_rfl) (by exact fun _ _ _ h => h) (Or.inl ⟨by rfl, ?_⟩) hHeld ?_
                rotate_left 1
                · intro w' hSw
                  (try dsimp only at hSw)
                  go_simp
                  try with_reducible rfl
                try simp only [Act.put, List.setIfInBounds_toArray, List.set_cons_zero, List.set_cons_succ, List.getElem_toArray, List.getElem_cons_zero, List.getElem_cons_succ]
                refine wpAnyH_take (i := 7) (v := ?_) (by rfl) (by kernel_rfl) (by kernel_rfl) (by kernel_rfl) (by exact fun _ _ _ h => h) (Or.inl ⟨by rfl, ?_⟩) hHeld ?_
                rotate_left 1
                · intro w' hSw
                  (try dsimp only at hSw)
                  go_simp
                  try with_reducible rfl
                try simp only [Act.put, List.setIfInBounds_toArray, List.set_cons_zero, List.set_cons_succ, List.getElem_toArray, List.getElem_cons_zero, List.getElem_cons_succ]
                refine wpAnyH_take (i := 8) (v := ?_) (by rfl) (by kernel_rfl) (by kernel_rfl) (by kernel_rfl) (by exact fun _ _ _ h => h) (Or.inl ⟨by rfl, ?_⟩) hHeld ?_
                rotate_left 1
                · intro w' hSw
                  (try dsimp only at hSw)
                  go_simp
                  try with_reducible rfl
                try simp only [Act.put, List.setIfInBounds_toArray, List.set_cons_zero, List.set_cons_succ, List.getElem_toArray, List.getElem_cons_zero, List.getElem_cons_succ]
                refine wpAnyH_done (by kernel_rfl) ?_ _
                clear hHeld
                go_wp2_with fail
                refine bodyPost_ret (v := .tuple #[.slice none 0 0, .int .i64 0, .int .i64 11, .int .i64 P]) ?_ rfl HBAD.out
                simp [results, Try.results16, Act.put]
              · obtain ⟨t2, ht2, hk2⟩ : ∃ t, ts[j2]? = some t ∧ t.k = 2 := hat.resolve_left (by rw [HL.out]; exact hj2)
                have hj2' : ((j2 : Int) == (L : Int)) = false := by simp; omega
                obtain ⟨a2, cc2, rfl, h2a, h2b, h2c⟩ := hsl.value
                obtain ⟨k5, hk5⟩ : ∃ k : Nat, y2.len = k := ⟨_, rfl⟩
                rw [hk5] at hsl ⊢
                have b2 : Below w5.heap.size w5 (w5.alloc (.cells (sx5 true ⟨1, T, P⟩ (.slice a2 k5 cc2)).toArray 38)) := (Below.refl _ _).alloc (Nat.le_refl _) _
                have h5 := (HK.out.kept hb5).kept b2
                obtain ⟨C, hC1, hC2⟩ := h5.row
                have hsl5 := (hsl.kept b2).mono (G := Mine w.heap.size u10) (fun k hk _ => HK.out.far hk)
                have HROW := Lib.hid (And.intro hC1 (And.intro hC2 (And.intro h5 hsl5)))
                have HSZ : Hid (w.heap.size ≤ (w5.alloc (.cells (sx5 true ⟨1, T, P⟩ (.slice a2 k5 cc2)).toArray 38)).heap.size ∧ y.len + 1 ≤ 2000000) := Lib.hid ⟨h5.below.size, by have := h5.few; have := h5.le; rw [HL.out] at this; omega⟩
                have HNEW : Hid (∀ j u, (sx5 true ⟨1, T, P⟩ (.slice a2 k5 cc2))[j]? = some u → (w5.alloc (.cells (sx5 true ⟨1, T, P⟩ (.slice a2 k5 cc2)).toArray 38)).cell? ((⟨w5.heap.size, 0, none⟩ : Addr).add j) = some u) := Lib.hid fun j u hu => by
                  rw [Addr.add_mid]
                  exact rangeAt_new w5 (sx5 true ⟨1, T, P⟩ (.slice a2 k5 cc2)) 38 j u hu
                have HONE : Hid (∀ u ∈ sx5 true ⟨1, T, P⟩ (.slice a2 k5 cc2), u.oneCell' = true) := Lib.hid (FoAt.single (l := true) (t := ⟨1, T, P⟩) hsl5).one
                have hse : ∀ (f : Fr) (r : List Fr), r.length = d → runF (f :: r) (ts.drop j) = runF (f.put (.one true ⟨1, T, P⟩ y2) :: r) (ts.drop (j2 + 1)) := fun f r hr => by
                  rw [hopen f r hr, drop_at ht2, run_ok (step_close hk2)]
                  simp only [Fr.put, Fo.nil_app]
                have HSE := Lib.hid hse
                have HJ2 : Hid (j < j2 + 1 ∧ j2 + 1 ≤ ts.length ∧ j2 < L) := Lib.hid ⟨by omega, by have := hle; rw [HL.out] at this ⊢; omega, by have := hle; rw [HL.out] at this; omega⟩
                have hj2w : wrap64 ((j2 : Int) + 1) = (j2 : Int) + 1 := IntWalk.wrap64_in _ (by have := hle; rw [HL.out] at this; omega)
                clear hsay hopen hat hsl hge hle hfew hb5 c5 HC hC1 hC2 h5 hsl5 b2 hse hj2 ht2 hk2 h2a h2b h2c hk5
                go_wp2_with (first | (refine wpList_val (.agg #[.int .i64 1, .string T, .int .i64 P]) (run_load_op 35 (.tmp 78) (by with_reducible rfl) g (off + j * 3) (by rfl) [.int .i64 1, .string T, .int .i64 P] _ HX5.out Try.underlying35 rfl (by rw [size_token]; rfl)) (by rfl) ?_) | (refine wpList_val (.agg #[.bool true, .int .i64 1, .string T, .int .i64 P, .slice a2 k5 cc2]) (build_sub (by with_reducible rfl) (by rfl) (by rfl)) (by rfl) ?_) | (refine wpList_app_sexp rfl (.tmp 75) (.tmp 82) rfl w.heap.size u10 y.len C rfl HROW.out.1 ⟨w5.heap.size, 0, none⟩ 1 1 (sx5 true ⟨1, T, P⟩ (.slice a2 k5 cc2)) rfl rfl HNEW.out HONE.out HSZ.out.2 HSZ.out.1 ?_; intro v' w6 hown hgrw hnew; have H6 := Lib.hid (HROW.out.2.2.1.one HROW.out.2.1 HROW.out.2.2.2 hown hgrw hnew (j' := j2 + 1) HJ2.out.1 HJ2.out.2.1 HSE.out); clear hown hgrw hnew))
                go_roundw
                case rel => exact ⟨j2 + 1, _, by go_num, H6⟩
                case measure => exact meas_wrap hj2w HJ2.out.1 HJ2.out.2.2
        · have h1' : (K == 1) = false := by simpa using h1
          have b2 : Below wr.heap.size wr (wr.alloc (.cells (sx5 false ⟨K, T, P⟩ (.slice none 0 0)).toArray 38)) := (Below.refl _ _).alloc (Nat.le_refl _) _
          have h5 := HK.out.kept b2
          obtain ⟨C, hC1, hC2⟩ := h5.row
          have HROW := Lib.hid (And.intro hC1 (And.intro hC2 h5))
          have HSZ : Hid (w.heap.size ≤ (wr.alloc (.cells (sx5 false ⟨K, T, P⟩ (.slice none 0 0)).toArray 38)).heap.size ∧ y.len + 1 ≤ 2000000) := Lib.hid ⟨h5.below.size, by have := h5.few; have := h5.le; rw [HL.out] at this; omega⟩
          have HNEW : Hid (∀ j u, (sx5 false ⟨K, T, P⟩ (.slice none 0 0))[j]? = some u → (wr.alloc (.cells (sx5 false ⟨K, T, P⟩ (.slice none 0 0)).toArray 38)).cell? ((⟨wr.heap.size, 0, none⟩ : Addr).add j) = some u) := Lib.hid fun j u hu => by
            rw [Addr.add_mid]
            exact rangeAt_new wr (sx5 false ⟨K, T, P⟩ (.slice none 0 0)) 38 j u hu
          have HONE : Hid (∀ u ∈ sx5 false ⟨K, T, P⟩ (.slice none 0 0), u.oneCell' = true) := Lib.hid (FoAt.single (w := wr) (F := fun _ => True) (SlAt.nil _ _)).one
          have hse : ∀ (f : Fr) (r : List Fr), r.length = d → runF (f :: r) (ts.drop j) = runF (f.put (.one false ⟨K, T, P⟩ .nil) :: r) (ts.drop (j + 1)) := fun f r _ => by rw [drop_at HT.out, run_ok (step_leaf h1 h2)]
          have HSE := Lib.hid hse
          clear h1 h2 b2 h5 hC1 hC2 hse
          go_wp2_with (first | (refine wpList_val (.agg #[.int .i64 K, .string T, .int .i64 P]) (run_load_op 35 (.tmp 37) (by with_reducible rfl) g (off + j * 3) (by rfl) [.int .i64 K, .string T, .int .i64 P] _ HX.out Try.underlying35 rfl (by rw [size_token]; rfl)) (by rfl) ?_) | (refine wpList_val (.agg #[.bool false, .int .i64 K, .string T, .int .i64 P, .slice none 0 0]) (build_leaf (by with_reducible rfl) (by rfl)) (by rfl) ?_) | (refine wpList_app_sexp rfl (.tmp 34) (.tmp 40) rfl w.heap.size u10 y.len C rfl HROW.out.1 ⟨wr.heap.size, 0, none⟩ 1 1 (sx5 false ⟨K, T, P⟩ (.slice none 0 0)) rfl rfl HNEW.out HONE.out HSZ.out.2 HSZ.out.1 ?_; intro v' w5 hown hgrw hnew; have H6 := Lib.hid (HROW.out.2.2.one HROW.out.2.1 (SlAt.nil _ _) hown hgrw hnew (j' := j + 1) (by omega) (by rw [HL.out]; omega) HSE.out); clear hown hgrw hnew))
          go_roundw
          case rel => exact ⟨j + 1, _, by go_num, H6⟩
          case measure => simp [intOf]; omega
    · obtain rfl : j = L := by have := HK.out.le; rw [HL.out] at this; omega
      have HEND : Hid (ListIs ts i d w (.returned (.tuple #[u10, .int .i64 (j : Int), .int .i64 0, .int .i64 0])) wr) := Lib.hid ⟨HK.out.below, .inr ⟨u10, y, j, rfl, HK.out.ge, HK.out.le, .inl HL.out.symm, HK.out.row.slice (fun k h _ => h.1) (fun k h => (HK.out.row.lt k h).1), by have := HK.out.few; have := HK.out.le; omega, HK.out.says⟩⟩
      go_wp2_with fail
      refine bodyPost_ret (v := .tuple #[u10, .int .i64 (j : Int), .int .i64 0, .int .i64 0]) ?_ rfl HEND.out
      simp [results, Try.results16, Act.put]
end
end Go.Proofs.Ytgojipnhnmigpaa
