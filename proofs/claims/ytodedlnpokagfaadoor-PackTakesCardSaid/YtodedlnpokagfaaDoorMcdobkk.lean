/- By program out of: DigAdd, PkList, PkApp, PkClone, DigSub, DigMul, PkListI. -/
import Derived.Test.YtodedlnpokagfaaDoorMoclici
import Derived.Deep.LoopGhost
/-
  The document's sum of digits.
-/
set_option linter.unusedVariables false
set_option linter.unusedSimpArgs false
namespace Go.Proofs.YtodedlnpokagfaaDoor
open Go.RowKit Rep

theorem info_int : (Tryd.prog.info? 3).map (fun i => (i.zero, i.size, i.bytes)) = some (some (.int .i64 0), 1, 8) := by kernel_rfl

/-- Digits that are being put together, in memory of their own. -/
def OutD (w wr : World) (a : Option Addr) (c : Nat) (O : List Nat) : Prop := OwnR 3 i64v w.heap.size wr a c O ∧ Below w.heap.size w wr
theorem OutD.start (w : World) : OutD w (w.alloc (.cells #[] 3)) (some ⟨w.heap.size, 0, none⟩) 0 [] :=
  ⟨⟨by simp [maxLen], .inr ⟨w.heap.size, rfl, Nat.le_refl _, Row.new (E := 3) w #[]⟩⟩, (Below.refl _ _).alloc (Nat.le_refl _) _⟩
theorem OutD.grow {w wr w' : World} {a : Option Addr} {c g' cap' d : Nat} {O : List Nat} (h : OutD w wr a c O) (hrow : Row 3 w' g' cap' ((O ++ [d]).map i64v)) (hcap : cap' ≤ maxLen)
    (hgr : (wr.alloc (.cells #[.int .i64 (d : Int)] 3)).grownBy w' (blk a)) (hg' : w.heap.size ≤ g') : OutD w w' (some ⟨g', 0, none⟩) cap' (O ++ [d]) :=
  ⟨⟨hcap, .inr ⟨g', rfl, hg', hrow⟩⟩, (h.2.alloc h.2.size _).grown hgr (by have := h.2.size; simp; omega) (fun k hk => h.1.blk_ge hk)⟩
theorem OutD.ready {w wr : World} {a : Option Addr} {c : Nat} {O : List Nat} (h : OutD w wr a c O) (d : Nat) :
    OwnR 3 i64v w.heap.size (wr.alloc (.cells #[.int .i64 (d : Int)] 3)) a c O ∧ (wr.alloc (.cells #[.int .i64 (d : Int)] 3)).cell? ⟨wr.heap.size, 0, none⟩ = some (i64v d) :=
  ⟨h.1.kept ((Below.refl wr.heap.size wr).alloc (Nat.le_refl _) _), (Row.new (E := 3) wr #[.int .i64 (d : Int)]).cell 0 _ rfl⟩
theorem OutD.cut {w wr : World} {a : Option Addr} {c v : Nat} {O : List Nat} (h : OutD w wr a c O) (hd : Dig 10 O) (hv : val 10 O = v) : Calls Tryd.prog 65 #[.slice a O.length c] wr (GivesD w.heap.size v w) :=
  cut_D h.1.reads h.1.le h.1.1 hd hv h.2 (.inr fun g off e => h.1.blk_ge (by rw [e]; rfl))

/-- Behind i digits of a sum. -/
structure AddDIn (xs ys O : List Nat) (i cy : Nat) : Prop where
  len : O.length = i
  dig : Dig 10 O
  cy1 : cy ≤ 1
  sum : val 10 O + 10 ^ i * cy = val 10 (xs.take i) + val 10 (ys.take i)
theorem AddDIn.start (xs ys : List Nat) : AddDIn xs ys [] 0 0 := ⟨rfl, Dig.nil _, by omega, by simp [val]⟩
theorem AddDIn.step {xs ys O : List Nat} {i cy T d cy' : Nat} (h : AddDIn xs ys O i cy) (hx : Dig 10 xs) (hy : Dig 10 ys) (hT : T = cy + xs.getD i 0 + ys.getD i 0) (hd : d = T % 10) (hc : cy' = T / 10) : AddDIn xs ys (O ++ [d]) (i + 1) cy' := by
  have hx1 : xs.getD i 0 < 10 := hx.getD i (by omega)
  have hy1 : ys.getD i 0 < 10 := hy.getD i (by omega)
  have h1 := h.cy1
  refine ⟨by simp [h.len], h.dig.append (Dig.cons (by omega) (Dig.nil _)), by omega, ?_⟩
  rw [val_snoc, h.len, val_take_succ', val_take_succ']
  have h2 := h.sum
  have h3 : 10 ^ i * d + 10 ^ (i + 1) * cy' = 10 ^ i * T := by
    rw [Nat.pow_succ, Nat.mul_assoc, ← Nat.mul_add]
    congr 1
    omega
  have h4 : 10 ^ i * T = 10 ^ i * cy + 10 ^ i * xs.getD i 0 + 10 ^ i * ys.getD i 0 := by rw [hT, Nat.mul_add, Nat.mul_add]
  omega
theorem AddDIn.done {xs ys O : List Nat} {i : Nat} (h : AddDIn xs ys O i 0) (h1 : xs.length ≤ i) (h2 : ys.length ≤ i) : val 10 O = val 10 xs + val 10 ys := by
  have := h.sum
  rw [List.take_of_length_le h1, List.take_of_length_le h2] at this
  omega

theorem D_cons {c : Nat} (h : 0 < c) : D c = (c % 10) :: D (c / 10) := by
  refine (eq_rep (b := 10) (by omega) (Dig.cons (Nat.mod_lt _ (by omega)) (D_dig _)) ?_ ?_).symm
  · by_cases e : c / 10 = 0
    · rw [e, D_zero]; simp [Top]; omega
    · have hne : D (c / 10) ≠ [] := fun h => e (D_nil.1 h)
      have := rep_top (b := 10) (by omega) (c / 10)
      unfold Top at this ⊢
      rwa [List.getLast?_cons_of_ne_nil hne]
  · rw [val_cons, val_D]; omega
theorem D_len_limbs {xs : List Nat} (hx : Lim xs) : (D (V xs)).length ≤ 10 * xs.length := by
  rw [D_len]
  have h1 : V xs < 4294967296 ^ xs.length := val_lt hx
  have h2 : (4294967296 : Nat) ^ xs.length ≤ (10 ^ 10) ^ xs.length := Nat.pow_le_pow_left (by omega) _
  rw [← Nat.pow_mul] at h2
  omega

/-- Behind the limbs from k on. -/
def OfIn (w : World) (xs : List Nat) (k : Nat) (a : Option Addr) (c : Nat) (wr : World) : Prop := OutD w wr a c (D (V (xs.drop k)))
/-- Digits that come behind: c is left of N. -/
def OfTail (w : World) (N cr : Nat) (a : Option Addr) (c : Nat) (P : List Nat) (wr : World) : Prop := OutD w wr a c P ∧ P ++ D cr = D N

theorem OfTail.step {w wr w' : World} {N cr c g' cap' d q : Nat} {a : Option Addr} {P : List Nat} (h : OfTail w N cr a c P wr) (h0 : 0 < cr) (hd : d = cr % 10) (hq : q = cr / 10) (hrow : Row 3 w' g' cap' ((P ++ [d]).map i64v)) (hcap : cap' ≤ maxLen)
    (hgr : (wr.alloc (.cells #[.int .i64 (d : Int)] 3)).grownBy w' (blk a)) (hg' : w.heap.size ≤ g') : OfTail w N q (some ⟨g', 0, none⟩) cap' (P ++ [d]) w' := by
  refine ⟨h.1.grow hrow hcap hgr hg', ?_⟩
  rw [← h.2, D_cons h0, hd, hq, List.append_assoc]
  rfl

set_option maxRecDepth 100000 in
set_option maxHeartbeats 4000000 in
theorem OfD_any (ax : Option Addr) (xs : List Nat) (cx : Nat) (w : World) (hx : Lim xs) (rx : Reads w ax (xs.map u32v)) (lx : xs.length ≤ 10000000) :
    Calls Tryd.prog 56 #[.slice ax xs.length cx] w (GivesD w.heap.size (V xs) w) := by
  have H0 : Hid (OfIn w xs xs.length (some ⟨w.heap.size, 0, none⟩) 0 (w.alloc (.cells #[] 3))) := Lib.hid (by
    unfold OfIn
    rw [List.drop_of_length_le (Nat.le_refl _)]
    exact OutD.start w)
  have HV : Hid (V (xs.drop 0) = V xs) := Lib.hid rfl
  have HX := Lib.hid hx
  clear hx
  go_enter Tryd.func56, Tryd.ntmps56
  go_wp2_with fail
  go_loopw [3, 4] (fun ov iv wr => ∃ (k : Nat) (a : Option Addr) (c : Nat), k ≤ xs.length ∧ ov = .slice a (D (V (xs.drop k))).length c ∧ iv = .int .i64 ((k : Int) - 1) ∧ OfIn w xs k a c wr) (fun _ iv _ => (intOf iv + 1).toNat)
  case atStart => exact ⟨xs.length, _, 0, Nat.le_refl _, by rw [List.drop_of_length_le (Nat.le_refl _)]; rfl, rfl, H0.out⟩
  case round =>
    obtain ⟨k, a, c, hk, rfl, rfl, hin⟩ := hrel
    have HI := Lib.hid hin
    clear hin H0
    cases k with
    | zero =>
      have HC := Lib.hid (HI.out.cut (D_dig _) (val_D _))
      rw [HV.out] at HC
      rw [List.drop_zero]
      clear HI
      generalize V xs = n at *
      go_wp2_with fail
      refine HC.out.mono ?_
      rintro e w2 ⟨a2, c2, rfl, hd2, hb2⟩
      have HE := Lib.hid (And.intro hd2 hb2)
      clear hd2 hb2 HC
      go_wp2_with fail
      go_ret
      exact ⟨a2, c2, rfl, HE.out.1, HE.out.2⟩
    | succ k =>
      rw [show (((k + 1 : Nat) : Int) - 1) = (k : Int) from by omega]
      have hkl : k < xs.length := by omega
      have d0 : (0 : Int) ≤ (k : Int) := by omega
      obtain ⟨x, hxe⟩ : ∃ x, x = xs.getD k 0 := ⟨_, rfl⟩
      have hxl : x < 4294967296 := by rw [hxe]; exact HX.out.getD k (by omega)
      obtain ⟨g1, o1, rfl, hg1, hc1⟩ := (rx.kept HI.out.2).open' (by rw [List.length_map]; omega)
      have hck1 := hc1 k _ (map_getElem? (xs := xs) hkl)
      rw [← hxe] at hck1
      unfold u32v at hck1
      have HNX : Hid (V (xs.drop k) = 4294967296 * V (xs.drop (k + 1)) + x) := Lib.hid (by
        unfold V
        rw [drop_cons _ xs k hkl, hxe, Nat.add_comm])
      have hlen : (D (V (xs.drop k))).length ≤ 100000000 := Nat.le_trans (D_len_limbs (HX.out.drop k)) (by rw [List.length_drop]; omega)
      have hlen1 : (D (V (xs.drop (k + 1)))).length ≤ 100000000 := Nat.le_trans (D_len_limbs (HX.out.drop (k + 1))) (by rw [List.length_drop]; omega)
      have HII : Hid (OutD w wr a c (D (V (xs.drop (k + 1))))) := HI
      clear hc1 hxe HI
      generalize hA : V (xs.drop (k + 1)) = A at *
      generalize hBq : V (xs.drop k) = Bq at *
      have HA := Lib.hid hA
      have HBq := Lib.hid hBq
      clear hA hBq
      have HG : GrowIn wr 3 i64v 10 4294967296 x w.heap.size a c (D A) 0 x wr := GrowIn.start HII.out.1 (D_dig A) hxl
      have HB := Lib.hid HII.out.2
      have hAl : (D A).length ≤ c := HII.out.1.le
      clear HII
      go_wp2_with fail
      clear hck1
      obtain ⟨wo, rfl⟩ : ∃ wo : World, wo = wr := ⟨_, rfl⟩
      go_loopw [5, 6] (fun cv jv wr => ∃ j cy : Nat, j ≤ (D A).length ∧ jv = .int .i64 j ∧ cv = .int .i64 cy ∧ cy < 4294967296 ∧ GrowIn wo 3 i64v 10 4294967296 x w.heap.size a c (D A) j cy wr) (fun _ jv _ => (D A).length - (intOf jv).toNat)
      case atStart => exact ⟨0, x, by omega, rfl, rfl, hxl, HG⟩
      case round =>
        obtain ⟨j, cy, hj, rfl, rfl, hcy, hin⟩ := hrel
        clear HG
        by_cases hlt : j < (D A).length
        · have dj : decide (j < (D A).length) = true := decide_eq_true hlt
          obtain ⟨g2, q, rfl, hle, hq, hcq, hfq, _, hb, hnext⟩ := hin.step hlt (by omega)
          obtain ⟨n, hn⟩ : ∃ n : Nat, (q : Int) * 4294967296 + (cy : Int) = (n : Int) := ⟨q * 4294967296 + cy, by omega⟩
          have hnb : n < 42949672960 := by omega
          obtain ⟨d, hd⟩ : ∃ d : Nat, (n : Int) % 10 = (d : Int) := ⟨n % 10, by omega⟩
          obtain ⟨q', hq'⟩ : ∃ q' : Nat, (n : Int) / 10 = (q' : Int) := ⟨n / 10, by omega⟩
          have HN := Lib.hid (hnext n q' d (by omega) (by omega) (by omega))
          have hqb : q' < 4294967296 := by omega
          have hqm1 : (0 : Int) ≤ (q : Int) * 4294967296 := by omega
          have hqm2 : (q : Int) * 4294967296 ≤ 42949672960 := by omega
          unfold i64v at hcq
          clear hnext hin hb
          go_wp2_with fail
          go_roundw
          case rel => exact ⟨j + 1, q', by omega, by go_num, rfl, hqb, HN.out⟩
          case measure => simp [intOf] <;> omega
        · obtain rfl : j = (D A).length := by omega
          obtain ⟨Q, hQ, hQl, hQe, hct', hg⟩ := hin.done (by omega) (D_dig A) (rep_top (by omega) A)
          rw [val_D, ← HNX.out] at hQe
          have dj : decide ((D A).length < (D A).length) = false := decide_eq_false (by omega)
          have hB2 : Below w.heap.size w wr := HB.out.grown hg HB.out.size (fun k hk => hQ.blk_ge hk)
          have HT : Hid (OfTail w Bq cy a c Q wr) := Lib.hid ⟨⟨hQ, hB2⟩, hQe⟩
          have HQL := Lib.hid hQl
          have hQle : Q.length ≤ 100000000 := by omega
          rw [← hQl]
          clear hin hQ hQe hg hB2 hQl dj
          go_wp2_with fail
          go_loopw [3, 5] (fun ov cv wr => ∃ (a : Option Addr) (c : Nat) (P : List Nat) (cy : Nat), ov = .slice a P.length c ∧ cv = .int .i64 cy ∧ cy < 4294967296 ∧ OfTail w Bq cy a c P wr) (fun _ cv _ => (intOf cv).toNat)
          case atStart => exact ⟨a, c, Q, cy, rfl, rfl, hcy, HT.out⟩
          case round =>
            clear HT hcy hct' hAl hQle HQL
            obtain ⟨a5, c5, P, cr, rfl, rfl, hcr, ht⟩ := hrel
            have HT := Lib.hid ht
            have hPl : P.length ≤ 100000000 := by
              have h1 : (P ++ D cr).length ≤ 100000000 := by rw [ht.2]; exact hlen
              rw [List.length_append] at h1
              omega
            clear ht
            rcases Nat.eq_zero_or_pos cr with h0 | h0
            · subst h0
              have hPe : P = D Bq := by
                have := HT.out.2
                rwa [D_zero, List.append_nil] at this
              have HO : Hid (OfIn w xs k a5 c5 wr) := Lib.hid (by
                unfold OfIn
                rw [HBq.out, ← hPe]
                exact HT.out.1)
              have HPE := Lib.hid hPe
              clear hPe HT
              go_wp2_with fail
              go_roundw
              case rel => exact ⟨k, a5, c5, by omega, by rw [HBq.out, ← HPE.out], rfl, HO.out⟩
              case measure => simp [intOf] <;> omega
            · have d3 : (0 : Int) < (cr : Int) := by omega
              obtain ⟨d, hd⟩ : ∃ d : Nat, (cr : Int) % 10 = (d : Int) := ⟨cr % 10, by omega⟩
              obtain ⟨q, hq⟩ : ∃ q : Nat, (cr : Int) / 10 = (q : Int) := ⟨cr / 10, by omega⟩
              have HD : Hid (d = cr % 10 ∧ q = cr / 10 ∧ q < cr) := Lib.hid (by omega)
              have hql : q < 4294967296 := by omega
              obtain ⟨hO1, hcell⟩ := HT.out.1.ready d
              have hsz : w.heap.size ≤ wr.heap.size := HT.out.1.2.size
              have H0 := Lib.hid h0
              clear h0
              go_wp2_with (first | (at_builtin; refine wpList_append_one _ rfl (.tmp 43) (.tmp 46) 86 rfl 3 (.int .i64 0) 8 Tryd.underlying86 info_int rfl i64v w.heap.size a5 _ _ P rfl hO1 rfl ⟨wr.heap.size, 0, none⟩ 1 d rfl hcell rfl (by unfold maxLen; omega) (by omega) (by simp; omega) ?_; intro g' cap' w' hrow' hcap hgrow hg') | fail)
              have HR := Lib.hid (HT.out.step H0.out HD.out.1 HD.out.2.1 hrow' hcap hgrow hg')
              clear hrow' hgrow hO1 hcell
              go_wp2_with fail
              go_roundw
              case rel => exact ⟨_, _, P ++ [d], q, by simp, rfl, hql, HR.out⟩
              case measure => have := HD.out.2.2; simp [intOf] <;> omega
end Go.Proofs.YtodedlnpokagfaaDoor


/-
  Layer 4: pack.Take at limbs and at ints.
-/
set_option linter.unusedVariables false
set_option linter.unusedSimpArgs false
namespace Go.Proofs.YtodedlnpokagfaaDoor
open Go.RowKit Rep

/-- An int's cell, by its 64 bits. -/
def n64v (m : Nat) : Value := .int .i64 (Pk.iN m)
theorem info_u32 : (Tryd.prog.info? 71).map (fun i => (i.zero, i.size, i.bytes)) = some (some (.int .u32 0), 1, 4) := by kernel_rfl
theorem grown_new {w w1 w2 : World} {i : Nat} {row : Option Nat} (h : w.grownBy w1 (some i)) (k : w1.grownBy w2 row) (hr : ∀ j, row = some j → w.heap.size ≤ j) : w.grownBy w2 (some i) :=
  ⟨k.os.trans h.os, k.tape.trans h.tape, k.output.trans h.output, Nat.le_trans h.size k.size, fun j hj hne => (k.block j (Nat.lt_of_lt_of_le hj h.size) (fun e => by have := hr j e.symm; omega)).trans (h.block j hj hne)⟩
theorem InSt.other {w w' : World} {i : Nat} {s : Pk.St} {row : Option Nat} (h : InSt w i s) (hg : w.grownBy w' row) (hr : ∀ j, row = some j → i < j) : InSt w' i s := by
  cases row with
  | none => exact h.kept (below_of_grown hg)
  | some j => exact h.newer (hr j rfl) hg
theorem OwnR.blkB {E : TypeId} {f : Nat → Value} {B : Nat} {w : World} {a : Option Addr} {c : Nat} {xs : List Nat} (h : OwnR E f B w a c xs) : ∀ j, blk a = some j → B ≤ j := by
  obtain ⟨_, ⟨rfl, rfl, rfl⟩ | ⟨g, rfl, hg, hr⟩⟩ := h
  · intro j e; cases e
  · intro j e; cases e; exact hg
theorem OwnR.past {E : TypeId} {f : Nat → Value} {B i : Nat} {w w' : World} {a : Option Addr} {c : Nat} {xs : List Nat} (h : OwnR E f B w a c xs) (hi : i < B) (hg : w.grownBy w' (some i)) : OwnR E f B w' a c xs := by
  refine h.grown hg ?_
  cases a with
  | none => exact .inl rfl
  | some p => exact .inr fun e => by have := h.blkB i e; omega
/-- Behind j rounds. -/
structure TkAt (E : TypeId) (f : Nat → Value) (k : Nat) (w : World) (i : Nat) (s : Pk.St) (j : Nat) (a : Option Addr) (c : Nat) (wr : World) : Prop where
  own : OwnR E f w.heap.size wr a c (Pk.rep k j s)
  inn : InSt wr i (Pk.repN k j s)
  grown : w.grownBy wr (some i)
  lt : i < w.heap.size
theorem TkAt.own1 {E : TypeId} {f : Nat → Value} {k : Nat} {w : World} {i : Nat} {s : Pk.St} {j : Nat} {a : Option Addr} {c : Nat} {wr w2 : World} (h : TkAt E f k w i s j a c wr) (G2 : wr.grownBy w2 (some i)) (d : Nat) :
    OwnR E f w.heap.size (w2.alloc (.cells #[f d] E)) a c (Pk.rep k j s) ∧ (w2.alloc (.cells #[f d] E)).cell? ⟨w2.heap.size, 0, none⟩ = some (f d) ∧ w.heap.size ≤ (w2.alloc (.cells #[f d] E)).heap.size :=
  ⟨(h.own.past h.lt G2).kept ((Below.refl _ _).alloc (Nat.le_refl _) _), (Row.new (E := E) w2 #[f d]).cell 0 _ rfl, by have := h.grown.size; have := G2.size; simp; omega⟩
theorem TkAt.next {E : TypeId} {f : Nat → Value} {k : Nat} {w : World} {i : Nat} {s : Pk.St} {j : Nat} {a : Option Addr} {c : Nat} {wr w2 w' : World} {g' cap' : Nat} (h : TkAt E f k w i s j a c wr) (G1 : InSt w2 i (Pk.cutN k (Pk.repN k j s))) (G2 : wr.grownBy w2 (some i))
    {o : Obj} (hrow : Row E w' g' cap' ((Pk.rep k j s ++ [Pk.val (Pk.cutV k (Pk.repN k j s))]).map f)) (hcap : cap' ≤ maxLen) (hgrow : (w2.alloc o).grownBy w' (blk a)) (hg' : w.heap.size ≤ g') :
    TkAt E f k w i s (j + 1) (some ⟨g', 0, none⟩) cap' w' := by
  have hb := h.own.blkB
  have hl := h.lt
  refine ⟨⟨hcap, .inr ⟨g', rfl, hg', ?_⟩⟩, ?_, ?_, hl⟩
  · rw [Pk.rep_snoc]; exact hrow
  · rw [Pk.repN_snoc]
    exact (G1.kept ((Below.refl _ _).alloc (Nat.le_refl _) _)).other hgrow (fun q e => by have := hb q e; omega)
  · exact grown_new (grownBy_trans_new (grownBy_trans_new h.grown G2) (grown_of_below ((Below.refl _ _).alloc (Nat.le_refl _) _) _)) hgrow hb
/-- A call on an In gives a list; the In is in this state then, and nothing else has changed. -/
def TakesL (f : Nat → Value) (i : Nat) (xs : List Nat) (s : Pk.St) (w : World) (e : Ending) (w' : World) : Prop :=
  ∃ a c, e = .returned (.slice a xs.length c) ∧ Hid (Reads w' a (xs.map f)) ∧ Hid (xs.length ≤ c ∧ c ≤ maxLen) ∧ Hid (∀ j, blk a = some j → w.heap.size ≤ j) ∧ Hid (InSt w' i s) ∧ Hid (w.grownBy w' (some i))
theorem TkAt.done {E : TypeId} {f : Nat → Value} {k : Nat} {w w0 : World} {i : Nat} {s : Pk.St} {n : Nat} {a : Option Addr} {c : Nat} {wr : World} (h : TkAt E f k w i s n a c wr) (hg : w0.grownBy w (some i)) :
    TakesL f i (Pk.rep k n s) (Pk.repN k n s) w0 (.returned (.slice a n c)) wr :=
  ⟨a, c, by rw [Pk.rep_length], Lib.hid h.own.reads, Lib.hid ⟨h.own.le, h.own.1⟩, Lib.hid (fun j e => by have := h.own.blkB j e; have := hg.size; omega), Lib.hid h.inn, Lib.hid (grownBy_trans_new hg h.grown)⟩
theorem count_room {k : Nat} {s : Pk.St} (hk : 1 ≤ k) : Pk.countV k s * k ≤ Pk.left (Pk.countN k s) ∧ (0 < Pk.countV k s → (Pk.countN k s).isSome) := by
  unfold Pk.countV Pk.countN
  cases h : Pk.countOK k s
  · exact ⟨by simp, fun h => by simp at h⟩
  · rw [if_pos rfl, if_pos rfl]
    unfold Pk.countOK at h
    obtain ⟨h1, h2⟩ := of_decide_eq_true h
    have e : (max (k : Int) 1).toNat = k := by omega
    rw [e] at h2
    have h3 : (Pk.intV s).toNat ≤ Pk.left (Pk.intN s) / k := by omega
    have h4 := Nat.mul_le_mul_right k h3
    have h5 := Nat.div_mul_le_self (Pk.left (Pk.intN s)) k
    refine ⟨by omega, fun hp => ?_⟩
    rcases hs : Pk.intN s with _ | r
    · rw [hs] at h3; simp [Pk.left] at h3; omega
    · rfl

set_option maxRecDepth 100000 in
set_option maxHeartbeats 4000000 in
theorem TakeU_any {w : World} {i : Nat} {s : Pk.St} (h : InSt w i s) :
    Calls Tryd.prog 37 #[.pointer (some ⟨i, 0, none⟩), .int .i64 4, .func (.func 38) #[.pointer (some ⟨i, 0, none⟩)] #[]] w (TakesL u32v i (Pk.listV 4 s) (Pk.listN 4 s) w) := by
  have HC := Lib.hid (Count_any h (m := ((4 : Nat) : Int)) ⟨by omega, by omega⟩)
  have HR := Lib.hid (count_room (k := 4) (s := s) (by omega))
  unfold Pk.listV Pk.listN
  clear h
  generalize Pk.countV ((4 : Nat) : Int) s = n at *
  generalize Pk.countN ((4 : Nat) : Int) s = s1 at *
  go_enter Tryd.func37, Tryd.ntmps37
  go_wp2_with fail
  refine HC.out.mono ?_
  rintro e w1 ⟨rfl, G1, G2⟩
  clear HC
  have hn : n * 4 ≤ 140737488355328 := by
    obtain ⟨a, c, hI⟩ := G1.out
    have h2 := hI.bytes.len
    have h3 := HR.out.1
    rw [← left_lft] at h2
    omega
  have HS : Hid (TkAt 71 u32v 4 w1 i s1 0 none 0 w1) := Lib.hid ⟨OwnR.nil _ _ _ _, G1.out, grown_refl _ _, G1.out.lt⟩
  clear G1
  go_wp2_with fail
  go_loopw [7, 11] (fun lv iv wr => ∃ (j : Nat) (a : Option Addr) (c : Nat), j ≤ n ∧ lv = .slice a j c ∧ iv = .int .i64 j ∧ Hid (TkAt 71 u32v 4 w1 i s1 j a c wr)) (fun _ iv _ => n - (intOf iv).toNat)
  case atStart => exact ⟨0, none, 0, Nat.zero_le _, rfl, rfl, HS⟩
  case round =>
    obtain ⟨j, a, c, hj, rfl, rfl, HJ⟩ := hrel
    clear HS
    by_cases hlt : j < n
    · have HM := Lib.hid (limb_any HJ.out.inn)
      have HLEN : Hid ((Pk.rep 4 j s1).length = j) := Lib.hid (Pk.rep_length _ _ _)
      have HN1 : Hid ((Pk.repN 4 (j + 1) s1).isNone = false) := Lib.hid (by
        obtain ⟨r1, r2⟩ := HR.out
        have hm : (j + 1) * 4 ≤ n * 4 := Nat.mul_le_mul_right _ hlt
        have := (Pk.repN_some (k := 4) (n := j + 1) (s := s1) (by omega) (r2 (by omega))).1
        simpa using this)
      go_wp2_with fail
      refine HM.out.mono ?_
      rintro e w2 ⟨rfl, G3, G4⟩
      clear HM
      have HNX : Hid (∀ (w' : World) (g' cap' : Nat) (o : Obj), Row 71 w' g' cap' ((Pk.rep 4 j s1 ++ [Pk.val (Pk.cutV 4 (Pk.repN 4 j s1))]).map u32v) → cap' ≤ maxLen → (w2.alloc o).grownBy w' (blk a) → w1.heap.size ≤ g' → TkAt 71 u32v 4 w1 i s1 (j + 1) (some ⟨g', 0, none⟩) cap' w') := Lib.hid fun w' g' cap' o h1 h2 h3 h4 => HJ.out.next G3.out G4.out h1 h2 h3 h4
      obtain ⟨ho1, hcell, hsz⟩ := HJ.out.own1 G4.out (Pk.val (Pk.cutV 4 (Pk.repN 4 j s1)))
      unfold u32v at hcell ho1
      clear G3 G4 HJ

      generalize Pk.val (Pk.cutV 4 (Pk.repN 4 j s1)) = d at *
      go_wp2_with (first | (at_builtin; refine wpList_append_one _ rfl (.tmp 13) (.tmp 16) 31 rfl 71 (.int .u32 0) 4 Tryd.underlying31 info_u32 rfl u32v w1.heap.size a _ _ (Pk.rep 4 j s1) rfl ho1 HLEN.out ⟨w2.heap.size, 0, none⟩ 1 d rfl hcell rfl (by unfold maxLen; omega) (by omega) hsz ?_; intro g' cap' w' hrow' hcap hgrow hg'; have HX := Lib.hid (HNX.out w' g' cap' _ hrow' hcap hgrow hg'); obtain ⟨a7, c7, hI⟩ := HX.out.inn; obtain ⟨d0, d1, d2, d3, d4⟩ := cellsTwo hI.blk; rw [HN1.out] at d1; clear hI hrow' hcap hgrow hg' ho1 hcell hsz HNX) | fail)
      go_roundw
      case rel => exact ⟨j + 1, some ⟨g', 0, none⟩, cap', by omega, rfl, by go_num, HX⟩
      case measure => simp [intOf]; omega
    · obtain rfl : j = n := by omega
      have HD := Lib.hid (HJ.out.done G2.out)
      clear HJ
      go_wp2_with fail
      go_ret
      exact HD.out
end Go.Proofs.YtodedlnpokagfaaDoor


/-
  append of a row onto a row of the call's own, of elements of one cell: whether the block is a new one is told.
-/
set_option linter.unusedVariables false
set_option linter.unusedSimpArgs false
namespace Go.Proofs.YtodedlnpokagfaaDoor
open Go.RowKit Rep

theorem run_append_row {P : Program} (w : World) (t ty e : TypeId) (z : Value) (bts : Nat) (ht : P.underlying t = some (.slice e))
    (hi : (P.info? e).map (fun i => (i.zero, i.size, i.bytes)) = some (some z, 1, bts)) (hz1 : z.cells.size = 1)
    (f : Nat → Value) (h1 : ∀ d, (f d).oneCell' = true) (B : Nat) (aa : Option Addr) (n cap : Nat) (xs : List Nat) (hown : OwnR e f B w aa cap xs) (hn : xs.length = n)
    (src : Option Addr) (m c : Nat) (ys : List Nat) (hm : ys.length = m) (hr : Reads w src (ys.map f))
    (hmax : n + m ≤ maxLen) (hb : (n + m) * bts ≤ 140737488355328) (hB : B ≤ w.heap.size) :
    ∃ a' c' w', (Builtin.append_ #[t, t] ty #[.slice aa n cap, .slice src m c]).run P w = .ok (.slice a' (n + m) c') w' ∧ OwnR e f B w' a' c' (xs ++ ys) ∧ w.grownBy w' (blk aa) ∧ (∀ j, blk a' = some j → blk aa = some j ∨ w.heap.size ≤ j) := by
  obtain ⟨i, h2, h3, h4, h5⟩ := info_parts hi
  subst hn hm h5
  have hone : ∀ u ∈ ys.map f, u.oneCell' = true := by
    intro u hu
    obtain ⟨d, _, rfl⟩ := List.mem_map.1 hu
    exact h1 d
  rcases src with _ | ad
  · have hys : ys = [] := by
      rcases hr with hr | ⟨_, _, hr, _⟩
      · simpa using hr
      · cases hr
    subst hys
    refine ⟨aa, cap, w, ?_, by simpa using hown, grown_refl _ _, fun j hj => .inl hj⟩
    obtain ⟨hc, ⟨rfl, rfl, rfl⟩ | ⟨g, rfl, hg, hrow⟩⟩ := hown
    · simp [Builtin.append_, run_underlying ht, sizeOf, typeInfo, h2, Builtin.lenOf, Builtin.firstCells, loadCells, loadCellsFrom]
    · have hle := hrow.le
      simp only [List.length_map] at hle
      simp [Builtin.append_, run_underlying ht, sizeOf, typeInfo, h2, Builtin.lenOf, Builtin.firstCells, loadCells, loadCellsFrom, hle, storeCells]
  · have hnews : ∀ j u, (ys.map f)[j]? = some u → w.cell? (ad.add j) = some u := by
      rcases hr with hr | ⟨g, off, e', hr⟩
      · rw [hr]; intro j u hu; simp at hu
      · cases e'
        intro j u hu
        rw [Go.WideShapes.add_plain]
        exact hr j u hu
    have hl : (ys.map f).length = ys.length * i.size := by rw [h4, List.length_map, Nat.mul_one]
    obtain ⟨hc, ⟨rfl, rfl, rfl⟩ | ⟨g, rfl, hg, hrow⟩⟩ := hown
    · obtain ⟨v', w', q1, q2, q3, _⟩ := run_append_own (P := P) w w.heap.size t ty e i z 1 i.bytes ht h2 h3 h4 rfl hz1 (by decide) (.slice none 0 0) 0 [] (World.ownsRow_nil w _ _ _) ad ys.length c (ys.map f) (by rw [List.length_map, Nat.mul_one]) hnews hone (by simpa using hmax) (by simpa using hb) (Nat.le_refl _)
      simp only [List.nil_append, Nat.zero_add, List.length_nil] at q1 q2 ⊢
      obtain ⟨hl', ⟨rfl, e2⟩ | ⟨g', cap', cur, rfl, hb', hh, hnc, hcm, hcs, htake⟩⟩ := q2
      · rw [e2] at q1 ⊢
        have hys : ys = [] := List.eq_nil_of_length_eq_zero e2
        subst hys
        exact ⟨none, 0, w', q1, OwnR.nil _ _ _ _, q3, fun j hj => by cases hj⟩
      · refine ⟨_, cap', w', q1, ⟨hcm, .inr ⟨g', rfl, by omega, cur, hh, by omega, by simp; omega, ?_⟩⟩, q3, fun j hj => .inr (by cases hj; exact hb')⟩
        rw [Nat.mul_one] at htake
        rw [List.length_map]
        exact htake
    · obtain ⟨cur, hh, hcs, hle, htk⟩ := hrow
      rw [List.length_map] at hle htk
      by_cases hroom : xs.length + ys.length ≤ cap
      · have q1 := run_append_room (P := P) w t ty e i ht h2 g xs.length cap cur hh ad ys.length c (ys.map f) hl hnews hone hroom (by rw [h4, List.length_map, Nat.mul_one]; omega)
        refine ⟨_, cap, _, q1, ⟨hc, .inr ⟨g, rfl, hg, _, setRow_heap w g cur _ e _ hh, ?_, ?_, ?_⟩⟩, ⟨rfl, rfl, rfl, by simp, fun k _ hk => setRow_other w g k _ (fun e => hk (by simp [blk, e]))⟩, fun j hj => .inl hj⟩
        · simp only [h4, Nat.mul_one, List.size_toArray, List.length_append, List.length_take, List.length_drop, Array.length_toList, List.length_map]
          omega
        · simpa using hroom
        · rw [h4, Nat.mul_one, htk, List.map_append, List.append_assoc, ← List.append_assoc]
          exact List.take_left
      · have hcm : grownCap w (xs.length + ys.length) cap e ≤ maxLen := grownCap_le_maxLen w (xs.length + ys.length) cap e hmax
        have hge := grownCap_ge w (xs.length + ys.length) cap e
        have hrw : Row e w g cap (xs.map f) := ⟨cur, hh, hcs, by simpa using hle, by simpa using htk⟩
        have hcell := hrw.cell
        have q1 := run_append_grow (P := P) w t ty e i z ht h2 h3 ⟨g, 0, none⟩ xs.length cap (xs.map f) (by rw [h4, List.length_map, Nat.mul_one]) (fun j v hv => by rw [Go.WideShapes.add_plain, Nat.zero_add]; exact hcell j v hv) ad ys.length c (ys.map f) hl hnews (by omega) (by unfold maxLen at hmax; omega) (growslice_fits (by omega) hb)
        refine ⟨_, _, _, q1, ⟨hcm, .inr ⟨w.heap.size, rfl, hB, _, heap_alloc_new w.drew _, ?_, ?_, ?_⟩⟩, ⟨rfl, rfl, rfl, by simp, fun k hk _ => Below.heap_alloc w.drew _ k hk⟩, fun j hj => .inr (by cases hj; exact Nat.le_refl _)⟩
        · simp only [Array.size_append, List.size_toArray, size_zeroCells, hz1, List.length_map]
          omega
        · simpa using hge
        · simp only [Array.toList_append, List.append_assoc]
          rw [List.map_append, ← List.append_assoc]
          exact List.take_left

section
variable {P : Program} {ops : Array Oper} {o : Oper} {a : Act} {w : World} {K : Act → World → Prop} {Q : Exit → Act → World → Prop}
theorem wp_append_row (s x : Operand) (t : TypeId)
    (ho : o.op = .call { callee := .builtin .append, args := #[s, x], argTypes := #[t, t] }) (e : TypeId) (z : Value) (bts : Nat) (ht : P.underlying t = some (.slice e))
    (hi : (P.info? e).map (fun i => (i.zero, i.size, i.bytes)) = some (some z, 1, bts)) (hz1 : z.cells.size = 1)
    (f : Nat → Value) (h1 : ∀ d, (f d).oneCell' = true) (B : Nat) (aa : Option Addr) (n cap : Nat) (xs : List Nat) (hs : a.eval s = .slice aa n cap) (hown : OwnR e f B w aa cap xs) (hn : xs.length = n)
    (src : Option Addr) (m c : Nat) (ys : List Nat) (hx : a.eval x = .slice src m c) (hm : ys.length = m) (hr : Reads w src (ys.map f))
    (hmax : n + m ≤ maxLen) (hb : (n + m) * bts ≤ 140737488355328) (hB : B ≤ w.heap.size)
    (h : ∀ a' c' w', OwnR e f B w' a' c' (xs ++ ys) → w.grownBy w' (blk aa) → (∀ j, blk a' = some j → blk aa = some j ∨ w.heap.size ≤ j) → K (a.put o.dst (.slice a' (n + m) c')) w') : o.wp P a w K Q := by
  obtain ⟨a', c', w', q1, q2, q3, q4⟩ := run_append_row (P := P) w t o.type e z bts ht hi hz1 f h1 B aa n cap xs hown hn src m c ys hm hr hmax hb hB
  unfold Oper.wp execOp
  simp only [ho, resolve, invoke, builtin, Sem.run_bind, Sem.run_pure, Result.andThen_ok, List.map_toArray, List.map_cons, List.map_nil, hs, hx, q1]
  exact h a' c' w' q2 q3 q4
theorem wpList_append_rowN {rest : List Oper} (hgd : o.guard = none) (s x : Operand) (t : TypeId)
    (ho : o.op = .call { callee := .builtin .append, args := #[s, x], argTypes := #[t, t] }) (e : TypeId) (z : Value) (bts : Nat) (ht : P.underlying t = some (.slice e))
    (hi : (P.info? e).map (fun i => (i.zero, i.size, i.bytes)) = some (some z, 1, bts)) (hz1 : z.cells.size = 1)
    (f : Nat → Value) (h1 : ∀ d, (f d).oneCell' = true) (B : Nat) (aa : Option Addr) (n cap : Nat) (xs : List Nat) (hs : a.eval s = .slice aa n cap) (hown : OwnR e f B w aa cap xs) (hn : xs.length = n)
    (src : Option Addr) (m c : Nat) (ys : List Nat) (hx : a.eval x = .slice src m c) (hm : ys.length = m) (hr : Reads w src (ys.map f))
    (hmax : n + m ≤ maxLen) (hb : (n + m) * bts ≤ 140737488355328) (hB : B ≤ w.heap.size)
    (h : ∀ a' c' w', OwnR e f B w' a' c' (xs ++ ys) → w.grownBy w' (blk aa) → (∀ j, blk a' = some j → blk aa = some j ∨ w.heap.size ≤ j) → wpList P ops Q rest (a.put o.dst (.slice a' (n + m) c')) w') : wpList P ops Q (o :: rest) a w :=
  wpList_plain hgd fun _ hK => wp_append_row s x t ho e z bts ht hi hz1 f h1 B aa n cap xs hs hown hn src m c ys hx hm hr hmax hb hB fun a' c' w' k1 k2 k3 => hK _ _ (h a' c' w' k1 k2 k3)
theorem step_append_row {E : Prop} (hgd : o.guard = none) (s x : Operand) (t : TypeId)
    (ho : o.op = .call { callee := .builtin .append, args := #[s, x], argTypes := #[t, t] }) (e : TypeId) (z : Value) (bts : Nat) (ht : P.underlying t = some (.slice e))
    (hi : (P.info? e).map (fun i => (i.zero, i.size, i.bytes)) = some (some z, 1, bts)) (hz1 : z.cells.size = 1)
    (f : Nat → Value) (h1 : ∀ d, (f d).oneCell' = true) (B : Nat) (aa : Option Addr) (n cap : Nat) (xs : List Nat) (hs : a.eval s = .slice aa n cap) (hown : OwnR e f B w aa cap xs) (hn : xs.length = n)
    (src : Option Addr) (m c : Nat) (ys : List Nat) (hx : a.eval x = .slice src m c) (hm : ys.length = m) (hr : Reads w src (ys.map f))
    (hmax : n + m ≤ maxLen) (hb : (n + m) * bts ≤ 140737488355328) (hB : B ≤ w.heap.size)
    (h : ∀ a' c' w', OwnR e f B w' a' c' (xs ++ ys) → w.grownBy w' (blk aa) → (∀ j, blk a' = some j → blk aa = some j ∨ w.heap.size ≤ j) → K (a.put o.dst (.slice a' (n + m) c')) w') :
    if Region.wanted o (yielded ops a.tmps) = true then Oper.wp P o a w K Q else E := by
  have hw : Region.wanted o (yielded ops a.tmps) = true := by simp [Region.wanted, hgd]
  rw [if_pos hw]
  exact wp_append_row s x t ho e z bts ht hi hz1 f h1 B aa n cap xs hs hown hn src m c ys hx hm hr hmax hb hB h
end
theorem info_u8 : (Tryd.prog.info? 5).map (fun i => (i.zero, i.size, i.bytes)) = some (some (.int .u8 0), 1, 1) := by kernel_rfl
theorem u8_one (d : Nat) : (u8v d).oneCell' = true := rfl
end Go.Proofs.YtodedlnpokagfaaDoor


/-
  slices.Clone of bytes.
-/
set_option linter.unusedVariables false
set_option linter.unusedSimpArgs false
namespace Go.Proofs.YtodedlnpokagfaaDoor
open Go.RowKit Rep

theorem one_u8 {xs : List Nat} : ∀ u ∈ xs.map u8v, u.oneCell' = true := by
  intro u hu
  obtain ⟨d, _, rfl⟩ := List.mem_map.1 hu
  rfl
/-- A call gives a new row of these bytes. -/
def GivesOwnB (xs : List Nat) (w : World) (e : Ending) (w' : World) : Prop :=
  ∃ a c, e = .returned (.slice a xs.length c) ∧ OwnR 5 u8v w.heap.size w' a c xs ∧ Below w.heap.size w w'
set_option maxRecDepth 100000 in
set_option maxHeartbeats 400000 in
theorem cloneB_nil (c : Nat) (w : World) : Calls Tryd.prog 14 #[.slice none 0 c] w (GivesOwnB [] w) := by
  have hnil := fun (w : World) (a : Option Addr) (n c : Nat) => Lib.run_eql_slice_nil (P := Tryd.prog) w 22 5 a n c 0 0 Tryd.underlying22
  go_enter Tryd.func14, Tryd.ntmps14
  go_wp2_with fail
  go_ret
  exact ⟨none, 0, rfl, OwnR.nil _ _ _ _, Below.refl _ _⟩
set_option maxRecDepth 100000 in
set_option maxHeartbeats 400000 in
theorem cloneB_some (p : Addr) (xs : List Nat) (c : Nat) (w : World) (hr : Reads w (some p) (xs.map u8v)) (hl : xs.length ≤ 140737488355328) :
    Calls Tryd.prog 14 #[.slice (some p) xs.length c] w (GivesOwnB xs w) := by
  have hnil := fun (w : World) (a : Option Addr) (n c : Nat) => Lib.run_eql_slice_nil (P := Tryd.prog) w 22 5 a n c 0 0 Tryd.underlying22
  go_enter Tryd.func14, Tryd.ntmps14
  have hrow : Row 5 (w.alloc (.cells #[] 5)) w.heap.size 0 [] := by simpa using Row.new (E := 5) w #[]
  have hr' := hr.kept ((Below.refl w.heap.size w).alloc (Nat.le_refl _) (.cells #[] 5))
  go_wp2_with (at_builtin; refine wpList_append_row _ rfl (.tmp 5) (.tmp 6) 22 rfl 5 (.int .u8 0) 1 Tryd.underlying22 info_u8 rfl w.heap.size 0 0 [] rfl hrow rfl (by simp [maxLen]) (some p) xs.length c (xs.map u8v) rfl (by simp) hr' one_u8 (by unfold maxLen; omega) (by omega) ?_; intro g' cap' w' hrow' hcap hgrow hg')
  go_ret
  refine ⟨some ⟨g', 0, none⟩, cap', by simp, ⟨hcap, .inr ⟨g', rfl, hg', by simpa using hrow'⟩⟩, ?_⟩
  exact ((Below.refl _ _).alloc (Nat.le_refl _) _).grown hgrow (by simp) (fun k hk => by cases hk; exact Nat.le_refl _)
end Go.Proofs.YtodedlnpokagfaaDoor


/-
  The document's difference of digits.
-/
set_option linter.unusedVariables false
set_option linter.unusedSimpArgs false
namespace Go.Proofs.YtodedlnpokagfaaDoor
open Go.RowKit Rep

/-- Behind i digits of a difference. -/
structure SubDIn (xs ys O : List Nat) (i b : Nat) : Prop where
  len : O.length = i
  dig : Dig 10 O
  b1 : b ≤ 1
  sum : val 10 O + val 10 (ys.take i) = val 10 (xs.take i) + 10 ^ i * b
theorem SubDIn.start (xs ys : List Nat) : SubDIn xs ys [] 0 0 := ⟨rfl, Dig.nil _, by omega, by simp [val]⟩
theorem SubDIn.step {xs ys O : List Nat} {i b d b' : Nat} (h : SubDIn xs ys O i b) (hd : d < 10) (hb : b' ≤ 1) (hT : d + b + ys.getD i 0 = xs.getD i 0 + 10 * b') : SubDIn xs ys (O ++ [d]) (i + 1) b' := by
  refine ⟨by simp [h.len], h.dig.append (Dig.cons hd (Dig.nil _)), hb, ?_⟩
  rw [val_snoc, h.len, val_take_succ', val_take_succ', Nat.pow_succ]
  have h2 := h.sum
  have h4 : 10 ^ i * d + 10 ^ i * b + 10 ^ i * ys.getD i 0 = 10 ^ i * xs.getD i 0 + 10 ^ i * 10 * b' := by rw [Nat.mul_assoc, ← Nat.mul_add, ← Nat.mul_add, ← Nat.mul_add, hT]
  omega
theorem SubDIn.done {xs ys O : List Nat} {i b : Nat} (h : SubDIn xs ys O i b) (h1 : xs.length = i) (h2 : ys.length ≤ i) (hle : val 10 ys ≤ val 10 xs) : val 10 O = val 10 xs - val 10 ys := by
  have h3 := h.sum
  rw [List.take_of_length_le (l := xs) (by omega), List.take_of_length_le (l := ys) h2] at h3
  have h4 := val_lt h.dig
  rw [h.len] at h4
  have hb := h.b1
  rcases Nat.eq_zero_or_pos b with e | e
  · subst e; rw [Nat.mul_zero] at h3; omega
  · obtain rfl : b = 1 := by omega
    omega

set_option maxRecDepth 100000 in
set_option maxHeartbeats 4000000 in
theorem SubD_any (ax ay : Option Addr) (cx cy n m : Nat) (w : World) (hx : DAt w ax cx n) (hy : DAt w ay cy m) (lx : (D n).length ≤ 1073741824) (ly : (D m).length ≤ 1073741824) :
    Calls Tryd.prog 76 #[.slice ax (D n).length cx, .slice ay (D m).length cy] w (GivesD w.heap.size (n - m) w) := by
  have HCM := Lib.hid (CmpD_any ax ay cx cy n m w hx hy lx ly)
  by_cases hlt : n < m
  · have hc : cmpI (n : Int) (m : Int) = -1 := by unfold cmpI; rw [if_pos (by omega)]
    rw [hc] at HCM
    have h0 : n - m = 0 := by omega
    rw [h0]
    clear hx hy hc h0 hlt
    go_enter Tryd.func76, Tryd.ntmps76
    go_wp2_with fail
    refine HCM.out.mono ?_
    rintro e w1 ⟨rfl, nd, rfl⟩
    go_wp2_with fail
    go_ret
    have hB : Below w.heap.size w ((w.drewN nd).alloc (.cells #[] 3)) := Below.alloc (show Below w.heap.size w (w.drewN nd) from ⟨rfl, rfl, rfl, Nat.le_refl _, fun _ _ => rfl⟩) (Nat.le_refl _) _
    exact ⟨some ⟨w.heap.size, 0, none⟩, 0, rfl, DAt.zero _ _ _ (by simp [maxLen]), hB, .inl rfl⟩
  · have hc : ¬ cmpI (n : Int) (m : Int) < 0 := by
      unfold cmpI; rw [if_neg (by omega)]; split <;> omega
    have hrx := hx.1
    have hry := hy.1
    have HXD := Lib.hid (D_dig n)
    have HYD := Lib.hid (D_dig m)
    have hlyx := D_mono (show m ≤ n by omega)
    have HV : Hid (val 10 (D n) - val 10 (D m) = n - m ∧ val 10 (D m) ≤ val 10 (D n)) := Lib.hid (by rw [val_D, val_D]; exact ⟨rfl, by omega⟩)
    clear hx hy hlt
    generalize D n = xs at *
    generalize D m = ys at *
    generalize n - m = s at *
    generalize cmpI (n : Int) (m : Int) = cm at *
    have H0 := Lib.hid (fun nd => OutD.start (w.drewN nd))
    go_enter Tryd.func76, Tryd.ntmps76
    go_wp2_with fail
    refine HCM.out.mono ?_
    rintro e w1 ⟨rfl, nd, rfl⟩
    have H1 := Lib.hid (H0.out nd)
    have hrx1 : Reads (w.drewN nd) ax (xs.map i64v) := hrx
    have hry1 : Reads (w.drewN nd) ay (ys.map i64v) := hry
    have HE0 : Hid (∀ e W, GivesD (w.drewN nd).heap.size s (w.drewN nd) e W → GivesD w.heap.size s w e W) := Lib.hid fun e W ⟨a, c, he, hd, hb, hn⟩ => ⟨a, c, he, hd, ⟨hb.os, hb.tape, hb.output, hb.size, hb.block⟩, hn⟩
    have HW : Hid (w.drewN nd = w.drewN nd) := Lib.hid rfl
    clear H0 HCM hrx hry HW
    go_wp2_with fail
    go_loopg [5, 6, 7] xs.length (fun k ov bv iv wr => ∃ a c O i b, ov = .slice a i c ∧ bv = .int .i64 (b : Nat) ∧ iv = .int .i64 (i : Nat) ∧ OutD (w.drewN nd) wr a c O ∧ SubDIn xs ys O i b ∧ i + k = xs.length)
    case atStart => exact ⟨_, _, [], 0, 0, rfl, rfl, rfl, H1.out, SubDIn.start _ _, by omega⟩
    case round =>
      obtain ⟨a, c, O, i, br, rfl, rfl, rfl, ho, hin, him⟩ := hrel
      have hil : i ≤ 1073741824 := by omega
      have HO := Lib.hid ho
      have HI := Lib.hid hin
      have HM := Lib.hid him
      have hbr := hin.b1
      clear ho hin H1
      by_cases hex : i < xs.length
      · have d1 : (i : Int) < (xs.length : Int) := by omega
        have d3 : decide (i < xs.length) = true := decide_eq_true (by omega)
        obtain ⟨x, hxe⟩ : ∃ x, x = xs.getD i 0 := ⟨_, rfl⟩
        obtain ⟨y, hye⟩ : ∃ y, y = ys.getD i 0 := ⟨_, rfl⟩
        have hxl : x < 10 := by rw [hxe]; exact HXD.out.getD i (by omega)
        have hyl : y < 10 := by rw [hye]; exact HYD.out.getD i (by omega)
        obtain ⟨g1, o1, rfl, hg1, hc1⟩ := (hrx1.kept HO.out.2).open' (by rw [List.length_map]; omega)
        have hck1 := hc1 i _ (map_getElem? (xs := xs) hex)
        rw [← hxe] at hck1
        unfold i64v at hck1
        clear hc1
        by_cases c2 : i < ys.length
        · by_cases hng : (x : Int) - (br : Int) - (y : Int) < 0
          · have e2 : i < ys.length := by omega
            have d2 : (i : Int) < (ys.length : Int) := by omega
            have d4 : decide (i < ys.length) = true := decide_eq_true (by omega)
            obtain ⟨g2, o2, rfl, hg2, hc2⟩ := (hry1.kept HO.out.2).open' (by rw [List.length_map]; omega)
            have hck2 := hc2 i _ (map_getElem? (xs := ys) e2)
            rw [← hye] at hck2
            unfold i64v at hck2
            clear hc2
            obtain ⟨S, hS⟩ : ∃ S : Int, (x : Int) - (br : Int) = S := ⟨_, rfl⟩
            have hSb : -1 ≤ S ∧ S ≤ 9 := by omega
            obtain ⟨hSb1, hSb2⟩ := hSb
            have hng' : ((x : Int) - (br : Int) - (y : Int)) < 0 := hng
            obtain ⟨T, hT⟩ : ∃ T : Int, S - (y : Int) = T := ⟨_, rfl⟩
            have hTn : T < 0 := by omega
            have hTm : -10 ≤ T := by omega
            obtain ⟨d, hd⟩ : ∃ d : Nat, T + 10 = (d : Int) := ⟨(T + 10).toNat, by omega⟩
            have HN := Lib.hid (HI.out.step (d := d) (b' := 1) (by omega) (by omega) (by rw [← hxe, ← hye]; omega))
            have HQ : Hid (i + 1 + (gk - 1) = xs.length ∧ 0 < gk) := Lib.hid (by have := HM.out; omega)
            obtain ⟨hO1, hcell⟩ := HO.out.ready d
            have hsz : w.heap.size ≤ wr.heap.size := HO.out.2.size
            clear him hxe hye hng hng' HM e2
            go_wp2_with (first | (at_builtin; refine wpList_append_one _ rfl (.tmp 41) (.tmp 43) 86 rfl 3 (.int .i64 0) 8 Tryd.underlying86 info_int rfl i64v w.heap.size a _ _ O rfl hO1 HI.out.len ⟨wr.heap.size, 0, none⟩ 1 d rfl hcell rfl (by unfold maxLen; omega) (by omega) (by simp; omega) ?_; intro g' cap' w' hrow' hcap hgrow hg') | fail)
            have HR := Lib.hid (HO.out.grow hrow' hcap hgrow hg')
            clear hrow' hgrow hO1 hcell
            go_wp2_with fail
            go_roundg (gk - 1)
            case rel => exact ⟨_, _, _, i + 1, 1, rfl, rfl, by go_num, HR.out, HN.out, HQ.out.1⟩
            case measure => have := HQ.out.2; omega
          · have e2 : i < ys.length := by omega
            have d2 : (i : Int) < (ys.length : Int) := by omega
            have d4 : decide (i < ys.length) = true := decide_eq_true (by omega)
            obtain ⟨g2, o2, rfl, hg2, hc2⟩ := (hry1.kept HO.out.2).open' (by rw [List.length_map]; omega)
            have hck2 := hc2 i _ (map_getElem? (xs := ys) e2)
            rw [← hye] at hck2
            unfold i64v at hck2
            clear hc2
            obtain ⟨S, hS⟩ : ∃ S : Int, (x : Int) - (br : Int) = S := ⟨_, rfl⟩
            have hSb : -1 ≤ S ∧ S ≤ 9 := by omega
            obtain ⟨hSb1, hSb2⟩ := hSb
            have hng' : ¬ ((x : Int) - (br : Int) - (y : Int)) < 0 := hng
            obtain ⟨d, hd⟩ : ∃ d : Nat, S - (y : Int) = (d : Int) := ⟨(S - (y : Int)).toNat, by omega⟩
            have HN := Lib.hid (HI.out.step (d := d) (b' := 0) (by omega) (by omega) (by rw [← hxe, ← hye]; omega))
            have HQ : Hid (i + 1 + (gk - 1) = xs.length ∧ 0 < gk) := Lib.hid (by have := HM.out; omega)
            obtain ⟨hO1, hcell⟩ := HO.out.ready d
            have hsz : w.heap.size ≤ wr.heap.size := HO.out.2.size
            clear him hxe hye hng hng' HM e2
            go_wp2_with (first | (at_builtin; refine wpList_append_one _ rfl (.tmp 41) (.tmp 43) 86 rfl 3 (.int .i64 0) 8 Tryd.underlying86 info_int rfl i64v w.heap.size a _ _ O rfl hO1 HI.out.len ⟨wr.heap.size, 0, none⟩ 1 d rfl hcell rfl (by unfold maxLen; omega) (by omega) (by simp; omega) ?_; intro g' cap' w' hrow' hcap hgrow hg') | fail)
            have HR := Lib.hid (HO.out.grow hrow' hcap hgrow hg')
            clear hrow' hgrow hO1 hcell
            go_wp2_with fail
            go_roundg (gk - 1)
            case rel => exact ⟨_, _, _, i + 1, 0, rfl, rfl, by go_num, HR.out, HN.out, HQ.out.1⟩
            case measure => have := HQ.out.2; omega
        · by_cases hng : (x : Int) - (br : Int) - (y : Int) < 0
          · have e2 : ¬ i < ys.length := by omega
            have d2 : ¬ (i : Int) < (ys.length : Int) := by omega
            have d4 : decide (i < ys.length) = false := decide_eq_false (by omega)
            have hny : y = 0 := by rw [hye]; exact getD_ge (by omega)
            have hng' : ((x : Int) - (br : Int) - (y : Int)) < 0 := hng
            obtain ⟨T, hT⟩ : ∃ T : Int, (x : Int) - (br : Int) = T := ⟨_, rfl⟩
            have hTn : T < 0 := by omega
            have hTm : -10 ≤ T := by omega
            obtain ⟨d, hd⟩ : ∃ d : Nat, T + 10 = (d : Int) := ⟨(T + 10).toNat, by omega⟩
            have HN := Lib.hid (HI.out.step (d := d) (b' := 1) (by omega) (by omega) (by rw [← hxe, ← hye]; omega))
            have HQ : Hid (i + 1 + (gk - 1) = xs.length ∧ 0 < gk) := Lib.hid (by have := HM.out; omega)
            obtain ⟨hO1, hcell⟩ := HO.out.ready d
            have hsz : w.heap.size ≤ wr.heap.size := HO.out.2.size
            clear him hxe hye hng hng' HM e2 hny
            go_wp2_with (first | (at_builtin; refine wpList_append_one _ rfl (.tmp 41) (.tmp 43) 86 rfl 3 (.int .i64 0) 8 Tryd.underlying86 info_int rfl i64v w.heap.size a _ _ O rfl hO1 HI.out.len ⟨wr.heap.size, 0, none⟩ 1 d rfl hcell rfl (by unfold maxLen; omega) (by omega) (by simp; omega) ?_; intro g' cap' w' hrow' hcap hgrow hg') | fail)
            have HR := Lib.hid (HO.out.grow hrow' hcap hgrow hg')
            clear hrow' hgrow hO1 hcell
            go_wp2_with fail
            go_roundg (gk - 1)
            case rel => exact ⟨_, _, _, i + 1, 1, rfl, rfl, by go_num, HR.out, HN.out, HQ.out.1⟩
            case measure => have := HQ.out.2; omega
          · have e2 : ¬ i < ys.length := by omega
            have d2 : ¬ (i : Int) < (ys.length : Int) := by omega
            have d4 : decide (i < ys.length) = false := decide_eq_false (by omega)
            have hny : y = 0 := by rw [hye]; exact getD_ge (by omega)
            have hng' : ¬ ((x : Int) - (br : Int) - (y : Int)) < 0 := hng
            obtain ⟨d, hd⟩ : ∃ d : Nat, (x : Int) - (br : Int) = (d : Int) := ⟨((x : Int) - (br : Int)).toNat, by omega⟩
            have HN := Lib.hid (HI.out.step (d := d) (b' := 0) (by omega) (by omega) (by rw [← hxe, ← hye]; omega))
            have HQ : Hid (i + 1 + (gk - 1) = xs.length ∧ 0 < gk) := Lib.hid (by have := HM.out; omega)
            obtain ⟨hO1, hcell⟩ := HO.out.ready d
            have hsz : w.heap.size ≤ wr.heap.size := HO.out.2.size
            clear him hxe hye hng hng' HM e2 hny
            go_wp2_with (first | (at_builtin; refine wpList_append_one _ rfl (.tmp 41) (.tmp 43) 86 rfl 3 (.int .i64 0) 8 Tryd.underlying86 info_int rfl i64v w.heap.size a _ _ O rfl hO1 HI.out.len ⟨wr.heap.size, 0, none⟩ 1 d rfl hcell rfl (by unfold maxLen; omega) (by omega) (by simp; omega) ?_; intro g' cap' w' hrow' hcap hgrow hg') | fail)
            have HR := Lib.hid (HO.out.grow hrow' hcap hgrow hg')
            clear hrow' hgrow hO1 hcell
            go_wp2_with fail
            go_roundg (gk - 1)
            case rel => exact ⟨_, _, _, i + 1, 0, rfl, rfl, by go_num, HR.out, HN.out, HQ.out.1⟩
            case measure => have := HQ.out.2; omega
      · have d1 : ¬ (i : Int) < (xs.length : Int) := by omega
        have d3 : decide (i < xs.length) = false := decide_eq_false (by omega)
        have HC := Lib.hid (HO.out.cut HI.out.dig ((HI.out.done (by omega) (by omega) HV.out.2).trans HV.out.1))
        rw [HI.out.len] at HC
        clear hex HM him
        go_wp2_with fail
        refine HC.out.mono ?_
        rintro e w2 hgd
        obtain ⟨a2, c2, rfl, hd2, hb2⟩ := HE0.out _ _ hgd
        have HE := Lib.hid (And.intro hd2 hb2)
        clear hd2 hb2 HC hgd
        go_wp2_with fail
        go_ret
        exact ⟨a2, c2, rfl, HE.out.1, HE.out.2⟩
end Go.Proofs.YtodedlnpokagfaaDoor


/-
  The document's product of digits.
-/
set_option linter.unusedVariables false
set_option linter.unusedSimpArgs false
namespace Go.Proofs.YtodedlnpokagfaaDoor
open Go.RowKit Rep

/-- Behind i digits of the first, the product so far. -/
def MulDOut (w : World) (xs ys : List Nat) (i : Nat) (wr : World) : Prop :=
  ∃ Q : List Nat, Row 3 wr w.heap.size (xs.length + ys.length + 1) (Q.map i64v) ∧ Q.length = xs.length + ys.length + 1 ∧ Dig 10 Q ∧ val 10 Q = val 10 (xs.take i) * val 10 ys ∧ (∀ j, i + ys.length ≤ j → Q.getD j 0 = 0) ∧ Below w.heap.size w wr
/-- Within such a digit, behind k of the second. -/
def MulDIn (w : World) (xs ys : List Nat) (i k c : Nat) (wr : World) : Prop :=
  ∃ Q : List Nat, Row 3 wr w.heap.size (xs.length + ys.length + 1) (Q.map i64v) ∧ Q.length = xs.length + ys.length + 1 ∧ Dig 10 Q ∧ val 10 Q + 10 ^ (i + k) * c = val 10 (xs.take i) * val 10 ys + 10 ^ i * (xs.getD i 0 * val 10 (ys.take k)) ∧
    (∀ j, i + max k ys.length ≤ j → Q.getD j 0 = 0) ∧ c ≤ 9 ∧ (k ≤ ys.length ∨ (k = ys.length + 1 ∧ c = 0)) ∧ Below w.heap.size w wr

theorem MulDOut.start (w : World) (xs ys : List Nat) : MulDOut w xs ys 0 (w.alloc (.cells (zrow .i64 (xs.length + ys.length + 1)) 3)) := by
  refine ⟨List.replicate (xs.length + ys.length + 1) 0, ?_, by simp, Dig.replicate _ _ _ (by omega), by simp [val_zeros, val], fun j _ => ?_, (Below.refl _ _).alloc (Nat.le_refl _) _⟩
  · have := Row.zrow (E := 3) .i64 w (xs.length + ys.length + 1)
    rw [List.map_replicate]
    exact this
  · simp [List.getD_eq_getElem?_getD, List.getElem?_replicate]; split <;> rfl
theorem MulDOut.enter {w wr : World} {xs ys : List Nat} {i : Nat} (h : MulDOut w xs ys i wr) : MulDIn w xs ys i 0 0 wr := by
  obtain ⟨Q, h1, h2, h3, h4, h5, h6⟩ := h
  exact ⟨Q, h1, h2, h3, by simp [val, h4], fun j hj => h5 j (by omega), by omega, .inl (by omega), h6⟩
theorem MulDIn.leave {w wr : World} {xs ys : List Nat} {i k : Nat} (h : MulDIn w xs ys i k 0 wr) (hk : ys.length ≤ k) : MulDOut w xs ys (i + 1) wr := by
  obtain ⟨Q, h1, h2, h3, h4, h5, h6, h7, h8⟩ := h
  refine ⟨Q, h1, h2, h3, ?_, fun j hj => h5 j (by omega), h8⟩
  rw [List.take_of_length_le hk, Nat.mul_zero, Nat.add_zero] at h4
  rw [h4, val_take_succ', Nat.add_mul, Nat.mul_assoc]
theorem MulDIn.step {w wr : World} {xs ys : List Nat} {i k c : Nat} (h : MulDIn w xs ys i k c wr) (hy : Dig 10 ys) (hx : Dig 10 xs) (hi : i < xs.length) (hgo : k < ys.length ∨ 0 < c) :
    ∃ q : Nat, q < 10 ∧ c ≤ 9 ∧ k ≤ ys.length ∧ wr.cell? ⟨w.heap.size, i + k, none⟩ = some (.int .i64 (q : Int)) ∧ wr.frozen? ⟨w.heap.size, i + k, none⟩ = false ∧
      ∀ T d c' : Nat, T = q + c + xs.getD i 0 * ys.getD k 0 → d = T % 10 → c' = T / 10 → MulDIn w xs ys i (k + 1) c' (wr.setCell ⟨w.heap.size, i + k, none⟩ (.int .i64 (d : Int))) := by
  obtain ⟨Q, h1, h2, h3, h4, h5, h6, h7, h8⟩ := h
  have hk : k ≤ ys.length := by omega
  have hjl : i + k < Q.length := by omega
  refine ⟨Q.getD (i + k) 0, h3.getD _ (by omega), h6, hk, h1.cell _ _ (map_getElem? hjl), h1.frozen _, fun T d c' hT hd hc => ?_⟩
  have hq9 : Q.getD (i + k) 0 ≤ 9 := by have := h3.getD (i + k) (by omega); omega
  have hp : xs.getD i 0 * ys.getD k 0 ≤ 81 := by
    have a1 : xs.getD i 0 ≤ 9 := by have := hx.getD i (by omega); omega
    have a2 : ys.getD k 0 ≤ 9 := by have := hy.getD k (by omega); omega
    exact Nat.mul_le_mul a1 a2
  refine ⟨Q.set (i + k) d, ?_, by simpa using h2, h3.set _ _ (by omega), ?_, fun j hj => ?_, by omega, ?_, h8.setCell (by simp) _⟩
  · have := h1.set (i + k) (i64v d)
    rw [← List.map_set] at this
    exact this
  · have e1 := val_set 10 Q (i + k) d hjl
    rw [val_take_succ', show i + (k + 1) = i + k + 1 from rfl, Nat.pow_succ, Nat.mul_assoc (10 ^ (i + k))]
    have e2 : 10 ^ (i + k) * d + 10 ^ (i + k) * (10 * c') = 10 ^ (i + k) * T := by rw [← Nat.mul_add]; congr 1; omega
    have e3 : 10 ^ (i + k) * T = 10 ^ (i + k) * Q.getD (i + k) 0 + 10 ^ (i + k) * c + 10 ^ (i + k) * (xs.getD i 0 * ys.getD k 0) := by rw [hT, Nat.mul_add, Nat.mul_add]
    have e4 : 10 ^ (i + k) * (xs.getD i 0 * ys.getD k 0) = 10 ^ i * (xs.getD i 0 * (10 ^ k * ys.getD k 0)) := by rw [Nat.pow_add]; ac_rfl
    have e5 : 10 ^ i * (xs.getD i 0 * (val 10 (ys.take k) + 10 ^ k * ys.getD k 0)) = 10 ^ i * (xs.getD i 0 * val 10 (ys.take k)) + 10 ^ i * (xs.getD i 0 * (10 ^ k * ys.getD k 0)) := by rw [Nat.mul_add, Nat.mul_add]
    omega
  · rw [Rep.getD_set_ne (by omega)]
    exact h5 j (by omega)
  · rcases Nat.lt_or_ge k ys.length with hl | hl
    · exact .inl (by omega)
    · obtain rfl : k = ys.length := by omega
      have z1 : Q.getD (i + ys.length) 0 = 0 := h5 _ (by omega)
      have z2 : ys.getD ys.length 0 = 0 := getD_ge (Nat.le_refl _)
      rw [z1, z2, Nat.mul_zero] at hT
      exact .inr ⟨rfl, by omega⟩

theorem MulDIn.of_eq {w W W' : World} {xs ys : List Nat} {i k c : Nat} (h : MulDIn w xs ys i k c W) (e1 : W'.heap = W.heap) (e2 : W'.os = W.os) (e3 : W'.tape = W.tape) (e4 : W'.output = W.output) : MulDIn w xs ys i k c W' := by
  obtain ⟨Q, h1, h2, h3, h4, h5, h6, h7, h8⟩ := h
  exact ⟨Q, h1.of_block (by rw [e1]), h2, h3, h4, h5, h6, h7, ⟨e2.trans h8.os, e3.trans h8.tape, e4.trans h8.output, by rw [e1]; exact h8.size, fun j hj => by rw [e1]; exact h8.block j hj⟩⟩

end Go.Proofs.YtodedlnpokagfaaDoor


/-
  Layer 4: pack.Take at ints.
-/
set_option linter.unusedVariables false
set_option linter.unusedSimpArgs false
namespace Go.Proofs.YtodedlnpokagfaaDoor
open Go.RowKit Rep

theorem Int_raw {w : World} {i : Nat} {s : Pk.St} (h : InSt w i s) : Calls Tryd.prog 15 #[.pointer (some ⟨i, 0, none⟩)] w (TakesV i (.int .i64 (Pk.iN (Pk.val (Pk.cutV 8 s)))) (Pk.cutN 8 s) w) := Int_any h

set_option maxRecDepth 100000 in
set_option maxHeartbeats 4000000 in
theorem TakeI_any {w : World} {i : Nat} {s : Pk.St} (h : InSt w i s) :
    Calls Tryd.prog 26 #[.pointer (some ⟨i, 0, none⟩), .int .i64 8, .func (.func 15) #[.pointer (some ⟨i, 0, none⟩)] #[]] w (TakesL n64v i (Pk.listV 8 s) (Pk.listN 8 s) w) := by
  have HC := Lib.hid (Count_any h (m := ((8 : Nat) : Int)) ⟨by omega, by omega⟩)
  have HR := Lib.hid (count_room (k := 8) (s := s) (by omega))
  unfold Pk.listV Pk.listN
  clear h
  generalize Pk.countV ((8 : Nat) : Int) s = n at *
  generalize Pk.countN ((8 : Nat) : Int) s = s1 at *
  go_enter Tryd.func26, Tryd.ntmps26
  go_wp2_with fail
  refine HC.out.mono ?_
  rintro e w1 ⟨rfl, G1, G2⟩
  clear HC
  have hn : n * 8 ≤ 140737488355328 := by
    obtain ⟨a, c, hI⟩ := G1.out
    have h2 := hI.bytes.len
    have h3 := HR.out.1
    rw [← left_lft] at h2
    omega
  have HS : Hid (TkAt 3 n64v 8 w1 i s1 0 none 0 w1) := Lib.hid ⟨OwnR.nil _ _ _ _, G1.out, grown_refl _ _, G1.out.lt⟩
  clear G1
  go_wp2_with fail
  go_loopw [7, 11] (fun lv iv wr => ∃ (j : Nat) (a : Option Addr) (c : Nat), j ≤ n ∧ lv = .slice a j c ∧ iv = .int .i64 j ∧ Hid (TkAt 3 n64v 8 w1 i s1 j a c wr)) (fun _ iv _ => n - (intOf iv).toNat)
  case atStart => exact ⟨0, none, 0, Nat.zero_le _, rfl, rfl, HS⟩
  case round =>
    obtain ⟨j, a, c, hj, rfl, rfl, HJ⟩ := hrel
    clear HS
    by_cases hlt : j < n
    · have HM := Lib.hid (Int_raw HJ.out.inn)
      have HLEN : Hid ((Pk.rep 8 j s1).length = j) := Lib.hid (Pk.rep_length _ _ _)
      have HN1 : Hid ((Pk.repN 8 (j + 1) s1).isNone = false) := Lib.hid (by
        obtain ⟨r1, r2⟩ := HR.out
        have hm : (j + 1) * 8 ≤ n * 8 := Nat.mul_le_mul_right _ hlt
        have := (Pk.repN_some (k := 8) (n := j + 1) (s := s1) (by omega) (r2 (by omega))).1
        simpa using this)
      go_wp2_with fail
      refine HM.out.mono ?_
      rintro e w2 ⟨rfl, G3, G4⟩
      clear HM
      have HNX : Hid (∀ (w' : World) (g' cap' : Nat) (o : Obj), Row 3 w' g' cap' ((Pk.rep 8 j s1 ++ [Pk.val (Pk.cutV 8 (Pk.repN 8 j s1))]).map n64v) → cap' ≤ maxLen → (w2.alloc o).grownBy w' (blk a) → w1.heap.size ≤ g' → TkAt 3 n64v 8 w1 i s1 (j + 1) (some ⟨g', 0, none⟩) cap' w') := Lib.hid fun w' g' cap' o h1 h2 h3 h4 => HJ.out.next G3.out G4.out h1 h2 h3 h4
      obtain ⟨ho1, hcell, hsz⟩ := HJ.out.own1 G4.out (Pk.val (Pk.cutV 8 (Pk.repN 8 j s1)))
      unfold n64v at hcell ho1
      clear G3 G4 HJ

      generalize Pk.val (Pk.cutV 8 (Pk.repN 8 j s1)) = d at *
      go_wp2_with (first | (at_builtin; refine wpList_append_one _ rfl (.tmp 13) (.tmp 16) 39 rfl 3 (.int .i64 0) 8 Tryd.underlying39 info_int rfl n64v w1.heap.size a _ _ (Pk.rep 8 j s1) rfl ho1 HLEN.out ⟨w2.heap.size, 0, none⟩ 1 d rfl hcell rfl (by unfold maxLen; omega) (by omega) hsz ?_; intro g' cap' w' hrow' hcap hgrow hg'; have HX := Lib.hid (HNX.out w' g' cap' _ hrow' hcap hgrow hg'); obtain ⟨a7, c7, hI⟩ := HX.out.inn; obtain ⟨d0, d1, d2, d3, d4⟩ := cellsTwo hI.blk; rw [HN1.out] at d1; clear hI hrow' hcap hgrow hg' ho1 hcell hsz HNX) | fail)
      go_roundw
      case rel => exact ⟨j + 1, some ⟨g', 0, none⟩, cap', by omega, rfl, by go_num, HX⟩
      case measure => simp [intOf]; omega
    · obtain rfl : j = n := by omega
      have HD := Lib.hid (HJ.out.done G2.out)
      clear HJ
      go_wp2_with fail
      go_ret
      exact HD.out
end Go.Proofs.YtodedlnpokagfaaDoor

