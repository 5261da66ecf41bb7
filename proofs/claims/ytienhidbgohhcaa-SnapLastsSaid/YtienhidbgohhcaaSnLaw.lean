/-
  SnapLasts: the law's walk.
-/
import Derived.Test.YtienhidbgohhcaaSnSpk
set_option linter.unusedVariables false
set_option linter.unusedSimpArgs false
namespace Go.Proofs.Ytienhidbgohhcaa
open Go.RowKit

/-- What the law is handed: rows of bytes. -/
structure RowIn where
  a : Option Addr
  bs : List Int
  c : Nat
instance : Inhabited RowIn := ⟨⟨none, [], 0⟩⟩
/-- Rows in memory. -/
def RowsAt (w : World) (la : Option Addr) (xs : List RowIn) : Prop :=
  xs = [] ∨ ∃ g off, la = some ⟨g, off, none⟩ ∧ ∀ i, i < xs.length → w.cell? ⟨g, off + i, none⟩ = some (.slice (xs.getD i default).a (xs.getD i default).bs.length (xs.getD i default).c) ∧ BytesAt w (xs.getD i default).a (xs.getD i default).bs ∧ (xs.getD i default).bs.length ≤ (xs.getD i default).c
/-- A text of bytes. -/
def txt (bs : List Int) : ByteArray := bs.foldl (fun r n => r.push (UInt8.ofNat n.toNat)) ByteArray.empty
theorem run_txt_op {o : Oper} {aa : Act} {w : World} (x : Operand) (ho : o.op = .convert 29 9 x) (a : Option Addr) (bs : List Int) (c : Nat) (hx : aa.eval x = .slice a bs.length c) (hb : BytesAt w a bs) :
    (execOp aa.eval o).run Try.prog w = .ok (.value (.string (txt bs))) w := by
  have h1 : (Conv.bytesToString (.slice a bs.length c)).run Try.prog w = .ok (.string (txt bs)) w := by
    rcases hb with rfl | ⟨g, off, rfl, hr⟩
    · cases a with
      | none => simp [Conv.bytesToString, Sem.run_pure, txt]
      | some ad =>
        refine run_bytesToString w ad 0 c [] ?_
        exact run_loadCells_list (P := Try.prog) w ad [] (by simp)
    · refine run_bytesToString w ⟨g, off, none⟩ bs.length c bs ?_
      have := run_loadCells_list (P := Try.prog) w ⟨g, off, none⟩ (bys bs) (fun j v hv => by rw [Addr.add_mid]; exact hr j v hv)
      rw [bys_len] at this
      exact this
  have h2 := (run_convert_bytes_string (P := Try.prog) w 29 9 5 a bs.length c Try.underlying29 Try.underlying5 Try.underlying9).trans h1
  unfold execOp
  simp only [ho, hx, Sem.run_bind, h2, Result.andThen_ok, Sem.run_pure]
section
variable {w0 w w' : World} {n : Nat} {d s l : Nat} {v : Value} {A A' : Dk.DV}
theorem One.reach (h : One w0 w n d s l v A) {v' : Value} (k : Reach d s l v n w v' A' w') : One w0 w' n d s l v' A' :=
  ⟨k.1, fun j hj => by
    rcases k.foot j hj with e | e
    · exact h.old j e
    · exact Nat.le_trans h.below.size e, h.below.trans (k.2.1.below h.old h.below.size)⟩
/-- Bytes that were there before the disk are apart from it. -/
theorem One.apart (h : One w0 w n d s l v A) {a : Option Addr} {bs : List Int} (hb : BytesAt w0 a bs) : ∀ x, 0 < bs.length → a = some x → ¬ Foot d s l v x.block := by
  intro x hl hx hk
  have h1 := h.old _ hk
  rcases hb with rfl | ⟨g, off, e, hr⟩
  · simp at hl
  · rw [hx] at e
    cases e
    have h2 := World.block_lt_of_cell? _ _ (hr 0 (b8 (bs.getD 0 0)) (by simp [bys]; exact ⟨bs.getD 0 0, by simp [hl], rfl⟩))
    dsimp only at h1 h2
    omega
end
theorem sec_new {n i : Nat} (hi : i < n) : Dk.sec (List.replicate (64 * n) 0) i = List.replicate 64 0 := by
  unfold Dk.sec
  rw [List.drop_replicate, List.take_replicate]
  congr 1
  omega
theorem noHdr_zero : isHdr (List.replicate 64 0) = false := by decide +kernel
theorem LN_zero : LN (List.replicate 64 0) = 0 := by decide +kernel
theorem new_inv {n : Nat} (h4 : 4 ≤ n) (h60 : n ≤ 60) (x : List Int) : Still n (Dk.DV.new n) ∧ SInv (Dk.DV.new n).seen n 0 x 1 := by
  have e : ∀ i, i < 2 → hdrOf (Dk.DV.new n).seen n i = List.replicate 64 0 := fun i hi => sec_new (by
    have : i = 0 ∨ i = 1 := by omega
    rcases this with rfl | rfl <;> omega)
  have hs : ∀ i, i < 2 → slotOf (Dk.DV.new n).seen n i = Shot.no := fun i hi => slot_nohdr (by rw [e i hi]; exact noHdr_zero)
  refine ⟨⟨⟨by simp [Dk.DV.new], by simp [Dk.DV.new], (fun x hx => by cases hx), by omega⟩, rfl, rfl⟩, ⟨⟨by omega, fun _ => rfl, by rw [hs 1 (by omega)]; rfl, .inl (hs 0 (by omega))⟩, ?_, ?_⟩⟩
  · rw [e 1 (by omega), LN_zero]; decide
  · rw [e 0 (by omega), LN_zero]; decide
theorem txt123 : txt [1, 2, 3] = { data := #[1, 2, 3] } := by rfl
/-- The law's last Save: three bytes in a new block. -/
theorem last_save {w W8 : World} {d s l n k p T : Nat} {v v7 : Value} {C : Dk.DV} {x : List Int} (hr : Reach d s l v n w v7 C W8) (hI : Still n C) (hW : WInv C.seen n k x p) (hk : k ≤ 100) (h4 : 4 ≤ n) (h60 : n ≤ 60) (ho : C.ops ≤ 2000) (hs : C.stop = 9223372036854775807) :
    Calls Try.prog 7 #[.pointer (some ⟨d, 0, none⟩), .int .u32 7, .slice (some ⟨W8.heap.size, 0, none⟩) 3 3] (W8.alloc (.cells #[.int .u8 1, .int .u8 2, .int .u8 3] T)).drew
      (fun e W => e = .returned (.int .i64 0) ∧ ∃ v9 D, Reach d s l v n w v9 D W ∧ told (slotOf D.seen n 0) (slotOf D.seen n 1) 7 = some ⟨((k + 1 : Nat) : Int), 7, [1, 2, 3], true⟩) := by
  have hb0 : Below W8.heap.size W8 (W8.alloc (.cells #[.int .u8 1, .int .u8 2, .int .u8 3] T)).drew := ((Below.refl _ _).alloc (Nat.le_refl _) _).drew
  have hr9 := hr.below hb0
  have hby : BytesAt (W8.alloc (.cells #[.int .u8 1, .int .u8 2, .int .u8 3] T)).drew (some ⟨W8.heap.size, 0, none⟩) [1, 2, 3] := .inr ⟨_, _, rfl, fun j u hu => rangeAt_new W8 (bys [1, 2, 3]) T j u hu⟩
  have hsv := Save_any hr9.1 (by omega) (f := 7) (c := 3) (by omega) hby (by show 3 ≤ _; omega) (by show 3 ≤ 3; omega) (fun x _ hx hk => by
    have h1 := hr.1.lt _ hk
    cases hx
    dsimp only at h1
    omega) (by rw [hI.wait]; simp) (by omega) (by rw [hW.great]; omega)
  refine hsv.mono ?_
  rintro e W ⟨rfl, hd⟩
  obtain ⟨v9, hr10⟩ := hr9.step hd
  have hdn := save_done (bs := [1, 2, 3]) (q := 9223372036854775807 - C.ops) hI hW h4 (by omega) (by show 3 ≤ _; omega) (by rw [hs]; omega) (by show (3 + 63) / 64 + 3 ≤ _; omega)
  refine ⟨rfl, v9, _, hr10, ?_⟩
  rw [hdn.2.1.tells, if_neg (by omega)]
/-- Between two Saves: so many are saved, the last one is told. -/
def LawAt (w0 : World) (n d s l : Nat) (xs : List RowIn) (k : Nat) (W : World) : Prop :=
  ∃ v A p, One w0 W n d s l v A ∧ Still n A ∧ SInv A.seen n k (xs.getD (k - 1) default).bs p ∧ A.stop = 9223372036854775807 ∧ A.ops ≤ 50 * k
set_option maxRecDepth 100000 in
set_option maxHeartbeats 16000000 in
theorem lasts_walk (w0 : World) (size : Int) (la : Option Addr) (lc : Nat) (xs : List RowIn) (stop : Int) (ka : Option Addr) (kc : Nat) (ks : List Bool) (torn tear : Int) (hrows : RowsAt w0 la xs) (hkeep : Truths w0 ka ks) (hlc : xs.length ≤ lc)
    (ht1 : -9223372036854775808 ≤ tear) (ht2 : tear ≤ 9223372036854775807) :
    Calls Try.prog 3 #[.int .i64 size, .slice la xs.length lc, .int .i64 stop, .slice ka ks.length kc, .int .i64 torn, .int .i64 tear] w0 (Says w0) := by
  have HSPK := Lib.hid (speaks06 w0)
  obtain ⟨LL, hLL⟩ : ∃ LL, xs.length = LL := ⟨_, rfl⟩
  obtain ⟨KL, hKL⟩ : ∃ KL, ks.length = KL := ⟨_, rfl⟩
  have HROWS := Lib.hid hrows
  have HKEEP := Lib.hid hkeep
  have HLL := Lib.hid hLL
  have HKL := Lib.hid hKL
  have HT := Lib.hid (And.intro ht1 ht2)
  rw [hLL] at hlc
  rw [hLL, hKL]
  clear hrows hkeep hLL hKL ht1 ht2
  go_enter Try.func3, Try.ntmps3
  go_wp2_with fail
  refine HSPK.out.mono ?_
  rintro e w1 ⟨rfl, hb1⟩
  have HB1 := Lib.hid hb1
  clear HSPK hb1
  have hsay : Hid (Says w0 (.returned (.bool true)) w1) := Lib.hid ⟨rfl, HB1.out⟩
  by_cases hs1 : size < 4
  · have hd := decide_eq_true hs1
    go_wp2_with fail
    go_ret
    exact hsay.out
  have hd1 : decide (size < 4) = false := by simpa using hs1
  by_cases hs2 : 60 < size
  · have hd := decide_eq_true hs2
    go_wp2_with fail
    go_ret
    exact hsay.out
  have hd2 : decide (60 < size) = false := by simpa using hs2
  by_cases hs3 : LL < 1
  · have hd : decide ((LL : Int) < 1) = true := by simp; omega
    go_wp2_with fail
    go_ret
    exact hsay.out
  have hd3 : decide ((LL : Int) < 1) = false := by simp; omega
  by_cases hs4 : 20 < LL
  · have hd : decide ((20 : Int) < (LL : Int)) = true := by simp; omega
    go_wp2_with fail
    go_ret
    exact hsay.out
  have hd4 : decide ((20 : Int) < (LL : Int)) = false := by simp; omega
  by_cases hs5 : 100 < KL
  · have hd : decide ((100 : Int) < (KL : Int)) = true := by simp; omega
    go_wp2_with fail
    go_ret
    exact hsay.out
  have hd5 : decide ((100 : Int) < (KL : Int)) = false := by simp; omega
  obtain ⟨n, rfl⟩ : ∃ n : Nat, size = (n : Int) := ⟨size.toNat, by omega⟩
  obtain ⟨lst, rfl⟩ : ∃ lst, LL = lst + 1 := ⟨LL - 1, by omega⟩
  have hn4 : 4 ≤ n := by omega
  have hn60 : n ≤ 60 := by omega
  have HNEW := Lib.hid (New_any w1 n (by omega) (by omega))
  have HN := Lib.hid (And.intro hn4 hn60)
  have hlst : lst ≤ 19 := by omega
  have hlc1 : lst ≤ lc := by omega
  have hlc2 : (lst : Int) ≤ (lc : Int) := by omega
  clear hlc
  have HKS : Hid (ks.length ≤ 100) := Lib.hid (by have := HKL.out; omega)
  obtain ⟨lg, loff, hla⟩ : ∃ g off, la = some ⟨g, off, none⟩ ∧ ∀ i, i < lst + 1 → w0.cell? ⟨g, off + i, none⟩ = some (.slice (xs.getD i default).a (xs.getD i default).bs.length (xs.getD i default).c) ∧ BytesAt w0 (xs.getD i default).a (xs.getD i default).bs ∧ (xs.getD i default).bs.length ≤ (xs.getD i default).c := by
    rcases HROWS.out with h | ⟨g, off, h1, h2⟩
    · have := HLL.out
      rw [h] at this
      simp at this
    · rw [HLL.out] at h2
      exact ⟨g, off, h1, h2⟩
  obtain ⟨rfl, hrow⟩ := hla
  have HROW := Lib.hid hrow
  clear hs1 hs2 hs3 hs4 hs5 hsay hrow HROWS hn4 hn60
  go_wp2_with fail
  refine HNEW.out.mono ?_
  rintro e w2 ⟨d, s, l, rfl, hdk, ld, ls, ll, hb2⟩
  have hone : One w0 w2 n d s l (.slice none 0 0) (Dk.DV.new n) := ⟨hdk, fun j hj => by
    have := HB1.out.size
    rcases hj with rfl | rfl | rfl | hj
    · omega
    · omega
    · omega
    · exact absurd hj (by intro h; cases h), HB1.out.trans (hb2.mono HB1.out.size)⟩
  have HONE := Lib.hid hone
  clear hdk ld ls ll hb2 hone HNEW HB1
  go_wp2_with fail
  have HRM := Lib.hid (Room_any w2 n (by have := HN.out; omega))
  have hrl : 64 * (n / 2 - 1) ≤ 1856 := by have := HN.out; omega
  obtain ⟨rm, hrm⟩ : ∃ x, 64 * (n / 2 - 1) = x := ⟨_, rfl⟩
  rw [hrm] at HRM hrl
  have HRME := Lib.hid hrm
  clear hrm
  have hcell : Hid (∀ W, Below w0.heap.size w0 W → ∀ i, i < lst + 1 → W.cell? ⟨lg, loff + i, none⟩ = some (.slice (xs.getD i default).a (xs.getD i default).bs.length (xs.getD i default).c)) := Lib.hid fun W hb i hi =>
    (hb.cell (p := ⟨lg, loff + i, none⟩) (World.block_lt_of_cell? _ _ (HROW.out i hi).1)).trans (HROW.out i hi).1
  go_loop [67] (fun (i : Value) => ∃ k : Nat, k ≤ lst + 1 ∧ i = .int .i64 (k : Int) ∧ Hid (∀ j, j < k → (xs.getD j default).bs.length ≤ rm)) (fun i => lst + 1 - (intOf i).toNat)
  case atStart => exact ⟨0, Nat.zero_le _, rfl, Lib.hid fun j hj => by omega⟩
  case round =>
    obtain ⟨k, hk, rfl, HK⟩ := hrel
    by_cases hlt : k < lst + 1
    · have hc := hcell.out w2 HONE.out.below k hlt
      have hk0 : (0 : Int) ≤ (k : Int) := by omega
      have hk1 : (k : Int) < (lst : Int) + 1 := by omega
      have hk2 : (k : Int) + 1 ≤ 100 := by omega
      have HLT := Lib.hid hlt
      have hsay : Hid (Says w0 (.returned (.bool true)) w2) := Lib.hid ⟨rfl, HONE.out.below⟩
      obtain ⟨bl, hbl⟩ : ∃ x, (xs.getD k default).bs.length = x := ⟨_, rfl⟩
      rw [hbl] at hc
      generalize (xs.getD k default).a = ra at *
      generalize (xs.getD k default).c = rc at *
      have HBL := Lib.hid hbl
      clear hlt hk hbl
      by_cases hgt : rm < bl
      · have hd : decide (rm < bl) = true := by simpa using hgt
        clear hgt
        go_wp2_with (go_at_call 6; refine HRM.out.mono ?_; rintro e w' ⟨rfl, rfl⟩)
        go_ret
        exact hsay.out
      · have hd : decide (rm < bl) = false := by simpa using hgt
        have HNX : Hid (∀ j, j < k + 1 → (xs.getD j default).bs.length ≤ rm) := Lib.hid fun j hj => by
          by_cases h : j = k
          · rw [h, HBL.out]; omega
          · exact HK.out j (by omega)
        clear hgt HK
        go_wp2_with (go_at_call 6; refine HRM.out.mono ?_; rintro e w' ⟨rfl, rfl⟩)
        go_roundw
        case rel => exact ⟨k + 1, by have := HLT.out; omega, by go_num, HNX⟩
        case measure => simp [intOf]; have := HLT.out; omega
    · obtain rfl : k = lst + 1 := by omega
      clear hlt hk
      have HLE : Hid (∀ j, j < lst + 1 → (xs.getD j default).bs.length ≤ rm) := HK
      clear HK HRM
      go_wp2_with fail
      have hni := new_inv HN.out.1 HN.out.2 (xs.getD (0 - 1) default).bs
      have H0 : Hid (LawAt w0 n d s l xs 0 w2) := Lib.hid ⟨_, _, 1, HONE.out, hni.1, hni.2, rfl, by simp [Dk.DV.new]⟩
      clear hni HONE
      go_loopw [84] (fun (i : Value) (wr : World) => ∃ k : Nat, k ≤ lst ∧ i = .int .i64 (k : Int) ∧ Hid (LawAt w0 n d s l xs k wr)) (fun i _ => lst - (intOf i).toNat)
      case atStart => exact ⟨0, Nat.zero_le _, rfl, H0⟩
      case round =>
        obtain ⟨k, hk, rfl, HK⟩ := hrel
        clear H0
        obtain ⟨v, A, p, h1, h2, h3, h4, h5⟩ := HK.out
        by_cases hlt : k < lst
        · have hc := hcell.out wr h1.below k (by omega)
          have hk0 : (0 : Int) ≤ (k : Int) := by omega
          have hk1 : (k : Int) < (lst : Int) := by omega
          have hk2 : (k : Int) + 1 ≤ 100 := by omega
          have hrk := HROW.out k (by omega)
          have hlk := HLE.out k (by omega)
          have hsv := Save_any h1.one (by have := HN.out; omega) (f := 7) (c := (xs.getD k default).c) (by omega) (hrk.2.1.kept h1.below) (by rw [HRME.out]; exact hlk) hrk.2.2 (h1.apart hrk.2.1) (by rw [h2.wait]; simp) (by omega) (by rw [h3.w.great]; omega)
          have hdone := save_done (bs := (xs.getD k default).bs) (q := 9223372036854775807 - A.ops) h2 h3.w HN.out.1 (by omega) (by rw [HRME.out]; exact hlk) (by rw [h4]; omega) (by omega)
          have HSV := Lib.hid hsv
          have HNX : Hid (∀ W, Did d s l v n (A.saved n 7 (xs.getD k default).bs) wr (.returned (.tuple #[])) W → LawAt w0 n d s l xs (k + 1) W) := Lib.hid fun W hd => by
            obtain ⟨v', hr⟩ := (Reach.start h1.one).step hd
            obtain ⟨g1, g2, g3, g4, g5⟩ := hdone
            exact ⟨v', _, _, h1.reach hr, g1, g5 h3, g4.trans h4, by rw [g3]; omega⟩
          have HLT := Lib.hid hlt
          clear hlt hk hrk hlk hsv hdone h1 h2 h3 h4 h5 HK
          obtain ⟨bs, hbs⟩ : ∃ x, (xs.getD k default).bs = x := ⟨_, rfl⟩
          rw [hbs] at hc HSV HNX
          generalize (xs.getD k default).a = ra at *
          generalize (xs.getD k default).c = rc at *
          clear hbs
          go_wp2_with fail
          refine HSV.out.mono ?_
          rintro e W ⟨rfl, hd⟩
          have HL := Lib.hid (HNX.out W hd)
          clear HSV HNX hd
          go_wp2_with fail
          go_roundw
          case rel => exact ⟨k + 1, by have := HLT.out; omega, by go_num, HL⟩
          case measure => simp [intOf]; have := HLT.out; omega
        · obtain rfl : lst = k := by omega
          clear hlt hk
          rcases Nat.eq_zero_or_pos lst with hz | hz
          · subst hz
            have HONE := Lib.hid h1
            have HST := Lib.hid h2
            have HINV := Lib.hid h3
            have HSP := Lib.hid h4
            have HOP := Lib.hid h5
            have HLD := Lib.hid (Load_any h1.one (by have := HN.out; omega) 7)
            rw [h3.w.tells, if_pos rfl] at HLD
            clear h1 h2 h3 h4 h5 HK
            go_wp2_with fail
            refine HLD.out.mono ?_
            rintro e W3 ⟨a, l3, c, ep, er, rfl, hb3, hm⟩
            obtain ⟨rfl, rfl, rfl, rfl, rfl⟩ := hm
            have HO3 := Lib.hid (HONE.out.kept hb3.drew)
            clear HLD hb3 HONE
            go_wp2_with fail
            refine wp_region_held_drew (S := (fun _ => True)) (by kernel_rfl) ?_ (fun hHeld => ?_)
            · trivial
            refine wpAnyH_take (i := 0) (v := ?_) (by rfl) (by kernel_rfl) (by kernel_rfl) (by kernel_rfl) (by exact fun _ _ _ h => h) (Or.inl ⟨by rfl, ?_⟩) hHeld ?_
            rotate_left 1
            · intro w' hSw
              (try dsimp only at hSw)
              go_simp
              try with_reducible rfl
            try simp only [Act.put, List.setIfInBounds_toArray, List.set_cons_zero, List.set_cons_succ, List.getElem_toArray, List.getElem_cons_zero, List.getElem_cons_succ]
            refine wpAnyH_take (i := 1) (v := ?_) (by rfl) (by kernel_rfl) (by kernel_rfl) (by kernel_rfl) (by exact fun _ _ _ h => h) (Or.inl ⟨by rfl, ?_⟩) hHeld ?_
            rotate_left 1
            · intro w' hSw
              (try dsimp only at hSw)
              go_simp
              try with_reducible rfl
            try simp only [Act.put, List.setIfInBounds_toArray, List.set_cons_zero, List.set_cons_succ, List.getElem_toArray, List.getElem_cons_zero, List.getElem_cons_succ]
            refine wpAnyH_take (i := 2) (v := ?_) (by rfl) (by kernel_rfl) (by kernel_rfl) (by kernel_rfl) (by exact fun _ _ _ h => h) (Or.inl ⟨by rfl, ?_⟩) hHeld ?_
            rotate_left 1
            · intro w' hSw
              (try dsimp only at hSw)
              go_simp
              try with_reducible rfl
            try simp only [Act.put, List.setIfInBounds_toArray, List.set_cons_zero, List.set_cons_succ, List.getElem_toArray, List.getElem_cons_zero, List.getElem_cons_succ]
            refine wpAnyH_take (i := 3) (v := ?_) (by rfl) (by kernel_rfl) (by kernel_rfl) (by kernel_rfl) (by exact fun _ _ _ h => h) (Or.inl ⟨by rfl, ?_⟩) hHeld ?_
            rotate_left 1
            · intro w' hSw
              (try dsimp only at hSw)
              go_simp
              try with_reducible rfl
            try simp only [Act.put, List.setIfInBounds_toArray, List.set_cons_zero, List.set_cons_succ, List.getElem_toArray, List.getElem_cons_zero, List.getElem_cons_succ]
            refine wpAnyH_take (i := 4) (v := ?_) (by rfl) (by kernel_rfl) (by kernel_rfl) (by kernel_rfl) (by exact fun _ _ _ h => h) (Or.inl ⟨by rfl, ?_⟩) hHeld ?_
            rotate_left 1
            · intro w' hSw
              (try dsimp only at hSw)
              go_simp
              try with_reducible rfl
            try simp only [Act.put, List.setIfInBounds_toArray, List.set_cons_zero, List.set_cons_succ, List.getElem_toArray, List.getElem_cons_zero, List.getElem_cons_succ]
            refine wpAnyH_take (i := 5) (v := ?_) (by rfl) (by kernel_rfl) (by kernel_rfl) (by kernel_rfl) (by exact fun _ _ _ h => h) (Or.inl ⟨by rfl, ?_⟩) hHeld ?_
            rotate_left 1
            · intro w' hSw
              (try dsimp only at hSw)
              go_simp
              try with_reducible rfl
            try simp only [Act.put, List.setIfInBounds_toArray, List.set_cons_zero, List.set_cons_succ, List.getElem_toArray, List.getElem_cons_zero, List.getElem_cons_succ]
            refine wpAnyH_take (i := 6) (v := ?_) (by rfl) (by kernel_rfl) (by kernel_rfl) (by kernel_rfl) (by exact fun _ _ _ h => h) (Or.inl ⟨by rfl, ?_⟩) hHeld ?_
            rotate_left 1
            · intro w' hSw
              (try dsimp only at hSw)
              go_simp
              try with_reducible rfl
            try simp only [Act.put, List.setIfInBounds_toArray, List.set_cons_zero, List.set_cons_succ, List.getElem_toArray, List.getElem_cons_zero, List.getElem_cons_succ]
            refine wpAnyH_take (i := 7) (v := ?_) (by rfl) (by kernel_rfl) (by kernel_rfl) (by kernel_rfl) (by exact fun _ _ _ h => h) (Or.inl ⟨by rfl, ?_⟩) hHeld ?_
            rotate_left 1
            · intro w' hSw
              (try dsimp only at hSw)
              go_simp
              try with_reducible rfl
            try simp only [Act.put, List.setIfInBounds_toArray, List.set_cons_zero, List.set_cons_succ, List.getElem_toArray, List.getElem_cons_zero, List.getElem_cons_succ]
            refine wpAnyH_take (i := 8) (v := ?_) (by rfl) (by kernel_rfl) (by kernel_rfl) (by kernel_rfl) (by exact fun _ _ _ h => h) (Or.inl ⟨by rfl, ?_⟩) hHeld ?_
            rotate_left 1
            · intro w' hSw
              (try dsimp only at hSw)
              go_simp
              try with_reducible rfl
            try simp only [Act.put, List.setIfInBounds_toArray, List.set_cons_zero, List.set_cons_succ, List.getElem_toArray, List.getElem_cons_zero, List.getElem_cons_succ]
            refine wpAnyH_take (i := 9) (v := undef) (by rfl) (by kernel_rfl) (by kernel_rfl) (by kernel_rfl) (by exact fun _ _ _ h => h) (Or.inr ⟨by rfl, rfl⟩) hHeld ?_
            try simp only [Act.put, List.setIfInBounds_toArray, List.set_cons_zero, List.set_cons_succ, List.getElem_toArray, List.getElem_cons_zero, List.getElem_cons_succ]
            refine wpAnyH_take (i := 10) (v := undef) (by rfl) (by kernel_rfl) (by kernel_rfl) (by kernel_rfl) (by exact fun _ _ _ h => h) (Or.inr ⟨by rfl, rfl⟩) hHeld ?_
            try simp only [Act.put, List.setIfInBounds_toArray, List.set_cons_zero, List.set_cons_succ, List.getElem_toArray, List.getElem_cons_zero, List.getElem_cons_succ]
            refine wpAnyH_take (i := 11) (v := undef) (by rfl) (by kernel_rfl) (by kernel_rfl) (by kernel_rfl) (by exact fun _ _ _ h => h) (Or.inr ⟨by rfl, rfl⟩) hHeld ?_
            try simp only [Act.put, List.setIfInBounds_toArray, List.set_cons_zero, List.set_cons_succ, List.getElem_toArray, List.getElem_cons_zero, List.getElem_cons_succ]
            refine wpAnyH_take (i := 12) (v := undef) (by rfl) (by kernel_rfl) (by kernel_rfl) (by kernel_rfl) (by exact fun _ _ _ h => h) (Or.inr ⟨by rfl, rfl⟩) hHeld ?_
            try simp only [Act.put, List.setIfInBounds_toArray, List.set_cons_zero, List.set_cons_succ, List.getElem_toArray, List.getElem_cons_zero, List.getElem_cons_succ]
            refine wpAnyH_take (i := 13) (v := undef) (by rfl) (by kernel_rfl) (by kernel_rfl) (by kernel_rfl) (by exact fun _ _ _ h => h) (Or.inr ⟨by rfl, rfl⟩) hHeld ?_
            try simp only [Act.put, List.setIfInBounds_toArray, List.set_cons_zero, List.set_cons_succ, List.getElem_toArray, List.getElem_cons_zero, List.getElem_cons_succ]
            refine wpAnyH_take (i := 14) (v := undef) (by rfl) (by kernel_rfl) (by kernel_rfl) (by kernel_rfl) (by exact fun _ _ _ h => h) (Or.inr ⟨by rfl, rfl⟩) hHeld ?_
            try simp only [Act.put, List.setIfInBounds_toArray, List.set_cons_zero, List.set_cons_succ, List.getElem_toArray, List.getElem_cons_zero, List.getElem_cons_succ]
            refine wpAnyH_take (i := 15) (v := undef) (by rfl) (by kernel_rfl) (by kernel_rfl) (by kernel_rfl) (by exact fun _ _ _ h => h) (Or.inr ⟨by rfl, rfl⟩) hHeld ?_
            try simp only [Act.put, List.setIfInBounds_toArray, List.set_cons_zero, List.set_cons_succ, List.getElem_toArray, List.getElem_cons_zero, List.getElem_cons_succ]
            refine wpAnyH_take (i := 16) (v := undef) (by rfl) (by kernel_rfl) (by kernel_rfl) (by kernel_rfl) (by exact fun _ _ _ h => h) (Or.inr ⟨by rfl, rfl⟩) hHeld ?_
            try simp only [Act.put, List.setIfInBounds_toArray, List.set_cons_zero, List.set_cons_succ, List.getElem_toArray, List.getElem_cons_zero, List.getElem_cons_succ]
            refine wpAnyH_take (i := 17) (v := undef) (by rfl) (by kernel_rfl) (by kernel_rfl) (by kernel_rfl) (by exact fun _ _ _ h => h) (Or.inr ⟨by rfl, rfl⟩) hHeld ?_
            try simp only [Act.put, List.setIfInBounds_toArray, List.set_cons_zero, List.set_cons_succ, List.getElem_toArray, List.getElem_cons_zero, List.getElem_cons_succ]
            refine wpAnyH_take (i := 18) (v := ?_) (by rfl) (by kernel_rfl) (by kernel_rfl) (by kernel_rfl) (by exact fun _ _ _ h => h) (Or.inl ⟨by rfl, ?_⟩) hHeld ?_
            rotate_left 1
            · intro w' hSw
              (try dsimp only at hSw)
              go_simp
              try with_reducible rfl
            try simp only [Act.put, List.setIfInBounds_toArray, List.set_cons_zero, List.set_cons_succ, List.getElem_toArray, List.getElem_cons_zero, List.getElem_cons_succ]
            refine wpAnyH_take (i := 19) (v := ?_) (by rfl) (by kernel_rfl) (by kernel_rfl) (by kernel_rfl) (by exact fun _ _ _ h => h) (Or.inl ⟨by rfl, ?_⟩) hHeld ?_
            rotate_left 1
            · intro w' hSw
              (try dsimp only at hSw)
              go_simp
              try with_reducible rfl
            try simp only [Act.put, List.setIfInBounds_toArray, List.set_cons_zero, List.set_cons_succ, List.getElem_toArray, List.getElem_cons_zero, List.getElem_cons_succ]
            refine wpAnyH_take (i := 20) (v := ?_) (by rfl) (by kernel_rfl) (by kernel_rfl) (by kernel_rfl) (by exact fun _ _ _ h => h) (Or.inl ⟨by rfl, ?_⟩) hHeld ?_
            rotate_left 1
            · intro w' hSw
              (try dsimp only at hSw)
              go_simp
              try with_reducible rfl
            try simp only [Act.put, List.setIfInBounds_toArray, List.set_cons_zero, List.set_cons_succ, List.getElem_toArray, List.getElem_cons_zero, List.getElem_cons_succ]
            refine wpAnyH_take (i := 21) (v := ?_) (by rfl) (by kernel_rfl) (by kernel_rfl) (by kernel_rfl) (by exact fun _ _ _ h => h) (Or.inl ⟨by rfl, ?_⟩) hHeld ?_
            rotate_left 1
            · intro w' hSw
              (try dsimp only at hSw)
              go_simp
              try with_reducible rfl
            try simp only [Act.put, List.setIfInBounds_toArray, List.set_cons_zero, List.set_cons_succ, List.getElem_toArray, List.getElem_cons_zero, List.getElem_cons_succ]
            refine wpAnyH_take (i := 22) (v := ?_) (by rfl) (by kernel_rfl) (by kernel_rfl) (by kernel_rfl) (by exact fun _ _ _ h => h) (Or.inl ⟨by rfl, ?_⟩) hHeld ?_
            rotate_left 1
            · intro w' hSw
              (try dsimp only at hSw)
              go_simp
              try with_reducible rfl
            try simp only [Act.put, List.setIfInBounds_toArray, List.set_cons_zero, List.set_cons_succ, List.getElem_toArray, List.getElem_cons_zero, List.getElem_cons_succ]
            refine wpAnyH_take (i := 23) (v := ?_) (by rfl) (by kernel_rfl) (by kernel_rfl) (by kernel_rfl) (by exact fun _ _ _ h => h) (Or.inl ⟨by rfl, ?_⟩) hHeld ?_
            rotate_left 1
            · intro w' hSw
              (try dsimp only at hSw)
              go_simp
              try with_reducible rfl
            try simp only [Act.put, List.setIfInBounds_toArray, List.set_cons_zero, List.set_cons_succ, List.getElem_toArray, List.getElem_cons_zero, List.getElem_cons_succ]
            refine wpAnyH_take (i := 24) (v := ?_) (by rfl) (by kernel_rfl) (by kernel_rfl) (by kernel_rfl) (by exact fun _ _ _ h => h) (Or.inl ⟨by rfl, ?_⟩) hHeld ?_
            rotate_left 1
            · intro w' hSw
              (try dsimp only at hSw)
              go_simp
              try with_reducible rfl
            try simp only [Act.put, List.setIfInBounds_toArray, List.set_cons_zero, List.set_cons_succ, List.getElem_toArray, List.getElem_cons_zero, List.getElem_cons_succ]
            refine wpAnyH_done (by kernel_rfl) ?_ _
            clear hHeld
            obtain ⟨q, hq31, hqe⟩ := and31 stop
            have HOPS := Lib.hid (Ops_any HO3.out.one)
            have hst4 := Stop_any HO3.out.one (A.ops + q)
            have HSTOP : Hid (Calls Try.prog 9 #[.pointer (some ⟨d, 0, none⟩), .int .i64 ((A.ops : Int) + (q : Int))] W3.drew (Did d s l v n (A.stops ((A.ops + q : Nat) : Int)) W3.drew)) := Lib.hid (by rw [show (A.ops : Int) + (q : Int) = ((A.ops + q : Nat) : Int) by omega]; exact hst4)
            have hob : A.ops ≤ 1000 := by have := HOP.out; omega
            have hoi : (A.ops : Int) ≤ 1000 := by omega
            have hq31i : (q : Int) ≤ 31 := by omega
            have HQ := Lib.hid hq31
            have HOB := Lib.hid hob
            clear hst4 hq31 hob
            go_wp2_with (first | (go_at_call 10; refine HOPS.out.mono ?_; rintro e w' ⟨rfl, rfl⟩))
            refine HSTOP.out.mono ?_
            intro e W4 hd4
            have HD4 := Lib.hid hd4
            obtain ⟨rfl, _⟩ := hd4
            obtain ⟨v4, hr4⟩ := (Reach.start HO3.out.one).step HD4.out
            have ho4 := HO3.out.reach hr4
            have hrL := HROW.out 0 (by omega)
            have hcL := hcell.out W4 ho4.below 0 (by omega)
            have hlL := HLE.out 0 (by omega)
            have hst : Still n (A.stops ((A.ops + q : Nat) : Int)) := ⟨⟨HST.out.fits.seen, HST.out.fits.last, HST.out.fits.wait, HST.out.fits.small⟩, HST.out.wait, HST.out.same⟩
            have hinv : SInv (A.stops ((A.ops + q : Nat) : Int)).seen n 0 (xs.getD (0 - 1) default).bs p := HINV.out
            obtain ⟨bL, hbL⟩ : ∃ x, (xs.getD 0 default).bs = x := ⟨_, rfl⟩
            rw [hbL] at hrL hcL hlL
            have hsv := Save_any ho4.one (by have := HN.out; omega) (f := 7) (c := (xs.getD 0 default).c) (by omega) (hrL.2.1.kept ho4.below) (by rw [HRME.out]; exact hlL) hrL.2.2 (ho4.apart hrL.2.1) (by rw [hst.wait]; simp) (by show A.ops ≤ 10000; have := HOB.out; omega) (by rw [hinv.w.great]; omega)
            have HSV := Lib.hid hsv
            have HR4 := Lib.hid hr4
            have HRL := Lib.hid hrL
            have HLL2 := Lib.hid hlL
            have HI2 := Lib.hid (And.intro hst hinv)
            obtain ⟨rb, hrae⟩ : ∃ x, (xs.getD 0 default).a = x := ⟨_, rfl⟩
            obtain ⟨rcb, hrce⟩ : ∃ x, (xs.getD 0 default).c = x := ⟨_, rfl⟩
            rw [hrae, hrce] at hcL HSV HRL
            have HBLE := Lib.hid hbL
            have HRAE := Lib.hid hrae
            have HRCE := Lib.hid hrce
            clear hrae hrce
            clear hsv hrL hst hinv hlL ho4 hr4 HD4 HSTOP HOPS hbL
            rw [Nat.add_zero] at hcL
            go_wp2_with fail
            refine HSV.out.mono ?_
            rintro e W5 ⟨rfl, hd5'⟩
            obtain ⟨v5, hr5⟩ := HR4.out.step hd5'
            have HCA := Lib.hid (fun (m : Nat → Nat) (hm : ∀ k, m k ≤ 64) => save_crash (bs := bL) (q := q) hm HI2.out.1 HI2.out.2 HN.out.1 (by omega) (by rw [HRME.out]; exact HLL2.out) rfl hr5.1.fits)
            have HDEAD := Lib.hid (Dead_any hr5.1)
            generalize hBe : (A.stops ((A.ops + q : Nat) : Int)).saved n 7 bL = B at *
            have HBE := Lib.hid hBe
            have HR5 := Lib.hid hr5
            obtain ⟨bd, hbd⟩ : ∃ x, B.dead = x := ⟨_, rfl⟩
            rw [hbd] at HDEAD
            have HBD := Lib.hid hbd
            clear hbd hBe hr5 hd5' HSV HR4 HI2
            go_wp2_with fail
            refine HDEAD.out.mono ?_
            rintro e w' ⟨rfl, kd, rfl⟩
            have hr6 := HR5.out.below (show Below W5.heap.size W5 (W5.drewN kd) from below_drewN _ _)
            have ho6 := HO3.out.reach hr6
            have HCR0 := Crash_any hr6.1 (a := ka) (ks := ks) (c := kc) (torn := torn) (tear := tear) ⟨HKEEP.out.kept ho6.below, by have := HKS.out; omega, HT.out.1, HT.out.2, by
              by_cases hks : ks = []
              · exact .inl hks
              · right
                intro x hx hk
                have h1 := ho6.old _ hk
                rcases HKEEP.out with h | ⟨g, off, e, h⟩
                · exact hks h
                · rw [hx] at e
                  cases e
                  cases ks with
                  | nil => exact hks rfl
                  | cons b t =>
                    have h2 := World.block_lt_of_cell? _ _ (h 0 b rfl)
                    dsimp only at h1 h2
                    omega⟩
            rw [HKL.out] at HCR0
            have HCR := Lib.hid HCR0
            have HR6 := Lib.hid hr6
            clear HCR0 hr6 ho6 HDEAD HR5
            generalize W5.drewN kd = W6 at *
            go_wp2_with fail
            refine HCR.out.mono ?_
            intro e W7 hd7
            have HD7 := Lib.hid hd7
            obtain ⟨rfl, _⟩ := hd7
            obtain ⟨v7, hr7⟩ := HR6.out.step HD7.out
            have hca := HCA.out (muchN ks torn tear) (muchN_le ks torn tear)
            generalize hCe : B.crash (muchN ks torn tear) = C at *
            have hCo : C.ops = B.ops := by rw [← hCe]; rfl
            have hCs : C.stop = 9223372036854775807 := by rw [← hCe]; rfl
            obtain ⟨hs1, hs2, hs3, hs4⟩ := hca
            have hCb : C.ops ≤ 2000 := by
              have h1 := HOB.out
              have h2 := HLL2.out
              have h3 : (A.stops ((A.ops + q : Nat) : Int)).ops = A.ops := rfl
              rw [h3] at hs4
              omega
            rw [HBD.out] at hs3
            have HCS := Lib.hid hs1
            have HCB := Lib.hid (And.intro hCb hCs)
            have HR7 := Lib.hid hr7
            have hcL7 := hcell.out W7 (HO3.out.reach hr7).below 0 (by omega)
            clear hCe hCo hCs hs1 hs4 hCb hr7 HD7 HCR HR6 HCA HBE HBD hcL
            have hcases : (WInv C.seen n (0 + 1) bL (1 - p)) ∨ (bd = true ∧ WInv C.seen n 0 (xs.getD (0 - 1) default).bs p) := by
              cases bd
              · exact .inl (hs3 rfl)
              · rcases hs2 with h | h
                · exact .inr ⟨rfl, h⟩
                · exact .inl h
            clear hs2 hs3
            rcases hcases with hW | ⟨rfl, hW⟩
            · cases bd
              · skip
                have HWI := Lib.hid hW
                have HLD := Lib.hid (Load_any HR7.out.1 (by have := HN.out; omega) 7)
                rw [hW.tells, if_neg (by omega)] at HLD
                clear hW
                go_wp2_with fail
                refine HLD.out.mono ?_
                rintro e W8 ⟨a', l8, c', ep, er, rfl, hb8, hm⟩
                obtain ⟨rfl, hE, rfl, hsa, _⟩ := hm
                have hE0 : ep = (1 : Int) := by rw [hE]; simp
                have HEP := Lib.hid hE0
                have HE := Lib.hid hE
                have hep1 : (ep == 0) = false := by rw [hE0]; simp
                have hep2 : (ep == 1) = true := by rw [hE0]; simp
                clear hE hE0
                have hr8 := HR7.out.below hb8
                have hcL8 := hcell.out W8.drew (HO3.out.reach hr8).below.drew 0 (by omega)
                rw [Nat.add_zero] at hcL8
                have hB8 : BytesAt W8 a' bL := hsa.1
                have hRL8 : BytesAt W8.drew rb bL := HRL.out.2.1.kept (HO3.out.reach hr8).below.drew
                have hbL8 : (xs.getD 0 default).bs = bL := HBLE.out
                have hra8 : (xs.getD 0 default).a = rb := HRAE.out
                have hrc8 : (xs.getD 0 default).c = rcb := HRCE.out
                rw [hbL8, hra8, hrc8] at hcL8
                have hB9 : BytesAt W8.drew a' bL := hB8
                have HR8 := Lib.hid hr8
                clear hb8 hr8 HLD hsa
                go_wp2_with fail
                refine wp_region_held_drew (S := (fun w' => w'.cell? ⟨lg, loff, none⟩ = some (.slice rb bL.length rcb) ∧ BytesAt w' a' bL ∧ BytesAt w' rb bL)) (by kernel_rfl) ?_ (fun hHeld => ?_)
                · exact ⟨hcL8, hB9, hRL8⟩
                refine wpAnyH_take (i := 0) (v := ?_) (by rfl) (by kernel_rfl) (by kernel_rfl) (by kernel_rfl) (by exact fun _ _ _ h => h) (Or.inl ⟨by rfl, ?_⟩) hHeld ?_
                rotate_left 1
                · intro w' hSw
                  (try dsimp only at hSw)
                  go_simp
                  try with_reducible rfl
                try simp only [Act.put, List.setIfInBounds_toArray, List.set_cons_zero, List.set_cons_succ, List.getElem_toArray, List.getElem_cons_zero, List.getElem_cons_succ]
                refine wpAnyH_take (i := 1) (v := ?_) (by rfl) (by kernel_rfl) (by kernel_rfl) (by kernel_rfl) (by exact fun _ _ _ h => h) (Or.inl ⟨by rfl, ?_⟩) hHeld ?_
                rotate_left 1
                · intro w' hSw
                  (try dsimp only at hSw)
                  go_simp
                  try with_reducible rfl
                try simp only [Act.put, List.setIfInBounds_toArray, List.set_cons_zero, List.set_cons_succ, List.getElem_toArray, List.getElem_cons_zero, List.getElem_cons_succ]
                refine wpAnyH_take (i := 2) (v := ?_) (by rfl) (by kernel_rfl) (by kernel_rfl) (by kernel_rfl) (by exact fun _ _ _ h => h) (Or.inl ⟨by rfl, ?_⟩) hHeld ?_
                rotate_left 1
                · intro w' hSw
                  (try dsimp only at hSw)
                  go_simp
                  try with_reducible rfl
                try simp only [Act.put, List.setIfInBounds_toArray, List.set_cons_zero, List.set_cons_succ, List.getElem_toArray, List.getElem_cons_zero, List.getElem_cons_succ]
                refine wpAnyH_take (i := 3) (v := .bool true) (by rfl) (by kernel_rfl) (by kernel_rfl) (by kernel_rfl) (by exact fun _ _ _ h => h) (Or.inl ⟨by rfl, ?_⟩) hHeld ?_
                · intro w' hSw
                  go_simp
                  exact HEP.out.trans (by decide)
                try simp only [Act.put, List.setIfInBounds_toArray, List.set_cons_zero, List.set_cons_succ, List.getElem_toArray, List.getElem_cons_zero, List.getElem_cons_succ]
                refine wpAnyH_take (i := 4) (v := ?_) (by rfl) (by kernel_rfl) (by kernel_rfl) (by kernel_rfl) (by exact fun _ _ _ h => h) (Or.inl ⟨by rfl, ?_⟩) hHeld ?_
                rotate_left 1
                · intro w' hSw
                  (try dsimp only at hSw)
                  go_simp
                  try with_reducible rfl
                try simp only [Act.put, List.setIfInBounds_toArray, List.set_cons_zero, List.set_cons_succ, List.getElem_toArray, List.getElem_cons_zero, List.getElem_cons_succ]
                refine wpAnyH_take (i := 5) (v := ?_) (by rfl) (by kernel_rfl) (by kernel_rfl) (by kernel_rfl) (by exact fun _ _ _ h => h) (Or.inl ⟨by rfl, ?_⟩) hHeld ?_
                rotate_left 1
                · intro w' hSw
                  (try dsimp only at hSw)
                  go_simp
                  try with_reducible rfl
                try simp only [Act.put, List.setIfInBounds_toArray, List.set_cons_zero, List.set_cons_succ, List.getElem_toArray, List.getElem_cons_zero, List.getElem_cons_succ]
                refine wpAnyH_take (i := 6) (v := ?_) (by rfl) (by kernel_rfl) (by kernel_rfl) (by kernel_rfl) (by exact fun _ _ _ h => h) (Or.inl ⟨by rfl, ?_⟩) hHeld ?_
                rotate_left 1
                · intro w' hSw
                  (try dsimp only at hSw)
                  go_simp
                  try with_reducible rfl
                try simp only [Act.put, List.setIfInBounds_toArray, List.set_cons_zero, List.set_cons_succ, List.getElem_toArray, List.getElem_cons_zero, List.getElem_cons_succ]
                refine wpAnyH_take (i := 7) (v := ?_) (by rfl) (by kernel_rfl) (by kernel_rfl) (by kernel_rfl) (by exact fun _ _ _ h => h) (Or.inl ⟨by rfl, ?_⟩) hHeld ?_
                rotate_left 1
                · intro w' hSw
                  (try dsimp only at hSw)
                  go_simp
                  try with_reducible rfl
                try simp only [Act.put, List.setIfInBounds_toArray, List.set_cons_zero, List.set_cons_succ, List.getElem_toArray, List.getElem_cons_zero, List.getElem_cons_succ]
                refine wpAnyH_take (i := 8) (v := ?_) (by rfl) (by kernel_rfl) (by kernel_rfl) (by kernel_rfl) (by exact fun _ _ _ h => h) (Or.inl ⟨by rfl, ?_⟩) hHeld ?_
                rotate_left 1
                · intro w' hSw
                  (try dsimp only at hSw)
                  go_simp
                  try with_reducible rfl
                try simp only [Act.put, List.setIfInBounds_toArray, List.set_cons_zero, List.set_cons_succ, List.getElem_toArray, List.getElem_cons_zero, List.getElem_cons_succ]
                refine wpAnyH_take (i := 9) (v := ?_) (by rfl) (by kernel_rfl) (by kernel_rfl) (by kernel_rfl) (by exact fun _ _ _ h => h) (Or.inl ⟨by rfl, ?_⟩) hHeld ?_
                rotate_left 1
                · intro w' hSw
                  (try dsimp only at hSw)
                  go_simp
                  try with_reducible rfl
                try simp only [Act.put, List.setIfInBounds_toArray, List.set_cons_zero, List.set_cons_succ, List.getElem_toArray, List.getElem_cons_zero, List.getElem_cons_succ]
                refine wpAnyH_take (i := 10) (v := .string (txt bL)) (by rfl) (by kernel_rfl) (by kernel_rfl) (by kernel_rfl) (by exact fun _ _ _ h => h) (Or.inl ⟨by rfl, ?_⟩) hHeld ?_
                · intro w' hSw
                  exact run_txt_op (.tmp 177) rfl a' bL c' rfl hSw.2.1
                try simp only [Act.put, List.setIfInBounds_toArray, List.set_cons_zero, List.set_cons_succ, List.getElem_toArray, List.getElem_cons_zero, List.getElem_cons_succ]
                refine wpAnyH_take (i := 11) (v := ?_) (by rfl) (by kernel_rfl) (by kernel_rfl) (by kernel_rfl) (by exact fun _ _ _ h => h) (Or.inl ⟨by rfl, ?_⟩) hHeld ?_
                rotate_left 1
                · intro w' hSw
                  (try dsimp only at hSw)
                  go_simp
                  try with_reducible rfl
                try simp only [Act.put, List.setIfInBounds_toArray, List.set_cons_zero, List.set_cons_succ, List.getElem_toArray, List.getElem_cons_zero, List.getElem_cons_succ]
                refine wpAnyH_take (i := 12) (v := ?_) (by rfl) (by kernel_rfl) (by kernel_rfl) (by kernel_rfl) (by exact fun _ _ _ h => h) (Or.inl ⟨by rfl, ?_⟩) hHeld ?_
                rotate_left 1
                · intro w' hSw
                  (try dsimp only at hSw)
                  go_simp
                  try with_reducible rfl
                try simp only [Act.put, List.setIfInBounds_toArray, List.set_cons_zero, List.set_cons_succ, List.getElem_toArray, List.getElem_cons_zero, List.getElem_cons_succ]
                refine wpAnyH_take (i := 13) (v := .pointer (some ⟨lg, loff, none⟩)) (by rfl) (by kernel_rfl) (by kernel_rfl) (by kernel_rfl) (by exact fun _ _ _ h => h) (Or.inl ⟨by rfl, ?_⟩) hHeld ?_
                · intro w' hSw
                  go_simp
                try simp only [Act.put, List.setIfInBounds_toArray, List.set_cons_zero, List.set_cons_succ, List.getElem_toArray, List.getElem_cons_zero, List.getElem_cons_succ]
                refine wpAnyH_take (i := 14) (v := ?_) (by rfl) (by kernel_rfl) (by kernel_rfl) (by kernel_rfl) (by exact fun _ _ _ h => h) (Or.inl ⟨by rfl, ?_⟩) hHeld ?_
                rotate_left 1
                · intro w' hSw
                  (try dsimp only at hSw)
                  go_simp
                  try with_reducible rfl
                try simp only [Act.put, List.setIfInBounds_toArray, List.set_cons_zero, List.set_cons_succ, List.getElem_toArray, List.getElem_cons_zero, List.getElem_cons_succ]
                refine wpAnyH_take (i := 15) (v := .string (txt bL)) (by rfl) (by kernel_rfl) (by kernel_rfl) (by kernel_rfl) (by exact fun _ _ _ h => h) (Or.inl ⟨by rfl, ?_⟩) hHeld ?_
                · intro w' hSw
                  exact run_txt_op (.tmp 182) rfl rb bL rcb rfl hSw.2.2
                try simp only [Act.put, List.setIfInBounds_toArray, List.set_cons_zero, List.set_cons_succ, List.getElem_toArray, List.getElem_cons_zero, List.getElem_cons_succ]
                refine wpAnyH_take (i := 16) (v := ?_) (by rfl) (by kernel_rfl) (by kernel_rfl) (by kernel_rfl) (by exact fun _ _ _ h => h) (Or.inl ⟨by rfl, ?_⟩) hHeld ?_
                rotate_left 1
                · intro w' hSw
                  (try dsimp only at hSw)
                  go_simp
                  try with_reducible rfl
                try simp only [Act.put, List.setIfInBounds_toArray, List.set_cons_zero, List.set_cons_succ, List.getElem_toArray, List.getElem_cons_zero, List.getElem_cons_succ]
                refine wpAnyH_take (i := 17) (v := ?_) (by rfl) (by kernel_rfl) (by kernel_rfl) (by kernel_rfl) (by exact fun _ _ _ h => h) (Or.inl ⟨by rfl, ?_⟩) hHeld ?_
                rotate_left 1
                · intro w' hSw
                  (try dsimp only at hSw)
                  go_simp
                  try with_reducible rfl
                try simp only [Act.put, List.setIfInBounds_toArray, List.set_cons_zero, List.set_cons_succ, List.getElem_toArray, List.getElem_cons_zero, List.getElem_cons_succ]
                refine wpAnyH_take (i := 18) (v := ?_) (by rfl) (by kernel_rfl) (by kernel_rfl) (by kernel_rfl) (by exact fun _ _ _ h => h) (Or.inl ⟨by rfl, ?_⟩) hHeld ?_
                rotate_left 1
                · intro w' hSw
                  (try dsimp only at hSw)
                  go_simp
                  try with_reducible rfl
                try simp only [Act.put, List.setIfInBounds_toArray, List.set_cons_zero, List.set_cons_succ, List.getElem_toArray, List.getElem_cons_zero, List.getElem_cons_succ]
                refine wpAnyH_done (by kernel_rfl) ?_ _
                clear hHeld
                clear hcL8 hRL8 hbL8 hra8 hrc8 hB8 hB9
                go_wp2_with fail
                refine (last_save HR8.out HCS.out HWI.out (by omega) HN.out.1 HN.out.2 HCB.out.1 HCB.out.2).mono ?_
                rintro e W10 ⟨rfl, v9, D, hr10, htl⟩
                have HLD2 := Lib.hid (Load_any hr10.1 (by have := HN.out; omega) 7)
                rw [htl] at HLD2
                have HR10 := Lib.hid hr10
                clear htl hr10 HR8
                go_wp2_with fail
                refine HLD2.out.mono ?_
                rintro e W11 ⟨a9, l9, c9, ep9, er9, rfl, hb11, hl9, hE9, rfl, hsa9, _⟩
                obtain rfl : l9 = 3 := hl9
                obtain rfl : ep9 = ep + 1 := by rw [hE9]; show (((0 + 1) + 1 : Nat) : Int) = _; have := HEP.out; omega
                have hep3 : 0 ≤ ep := by have := HEP.out; omega
                have hep4 : ep ≤ 100 := by have := HEP.out; omega
                have hr11 := HR10.out.below hb11
                have h11 := (HO3.out.reach hr11).below
                have HSAY : Hid (Says w0 (.returned (.bool true)) W11) := Lib.hid ⟨rfl, h11⟩
                have hB11 : BytesAt W11 a9 [1, 2, 3] := hsa9.1
                clear hE9 hb11 hr11 h11 hsa9 HLD2 HR10
                go_wp2_with (first | (refine wpList_val (.string { data := #[1, 2, 3] }) ((run_txt_op (.tmp 216) (by with_reducible rfl) a9 [1, 2, 3] c9 (by rfl) hB11).trans (by rw [txt123])) (by rfl) ?_))
                go_ret
                exact HSAY.out
              · skip
                have HWI := Lib.hid hW
                have HLD := Lib.hid (Load_any HR7.out.1 (by have := HN.out; omega) 7)
                rw [hW.tells, if_neg (by omega)] at HLD
                clear hW
                go_wp2_with fail
                refine HLD.out.mono ?_
                rintro e W8 ⟨a', l8, c', ep, er, rfl, hb8, hm⟩
                obtain ⟨rfl, hE, rfl, hsa, _⟩ := hm
                have hE0 : ep = (1 : Int) := by rw [hE]; simp
                have HEP := Lib.hid hE0
                have HE := Lib.hid hE
                have hep1 : (ep == 0) = false := by rw [hE0]; simp
                have hep2 : (ep == 1) = true := by rw [hE0]; simp
                clear hE hE0
                have hr8 := HR7.out.below hb8
                have hcL8 := hcell.out W8.drew (HO3.out.reach hr8).below.drew 0 (by omega)
                rw [Nat.add_zero] at hcL8
                have hB8 : BytesAt W8 a' bL := hsa.1
                have hRL8 : BytesAt W8.drew rb bL := HRL.out.2.1.kept (HO3.out.reach hr8).below.drew
                have hbL8 : (xs.getD 0 default).bs = bL := HBLE.out
                have hra8 : (xs.getD 0 default).a = rb := HRAE.out
                have hrc8 : (xs.getD 0 default).c = rcb := HRCE.out
                rw [hbL8, hra8, hrc8] at hcL8
                have hB9 : BytesAt W8.drew a' bL := hB8
                have HR8 := Lib.hid hr8
                clear hb8 hr8 HLD hsa
                go_wp2_with fail
                refine wp_region_held_drew (S := (fun w' => w'.cell? ⟨lg, loff, none⟩ = some (.slice rb bL.length rcb) ∧ BytesAt w' a' bL ∧ BytesAt w' rb bL)) (by kernel_rfl) ?_ (fun hHeld => ?_)
                · exact ⟨hcL8, hB9, hRL8⟩
                refine wpAnyH_take (i := 0) (v := ?_) (by rfl) (by kernel_rfl) (by kernel_rfl) (by kernel_rfl) (by exact fun _ _ _ h => h) (Or.inl ⟨by rfl, ?_⟩) hHeld ?_
                rotate_left 1
                · intro w' hSw
                  (try dsimp only at hSw)
                  go_simp
                  try with_reducible rfl
                try simp only [Act.put, List.setIfInBounds_toArray, List.set_cons_zero, List.set_cons_succ, List.getElem_toArray, List.getElem_cons_zero, List.getElem_cons_succ]
                refine wpAnyH_take (i := 1) (v := ?_) (by rfl) (by kernel_rfl) (by kernel_rfl) (by kernel_rfl) (by exact fun _ _ _ h => h) (Or.inl ⟨by rfl, ?_⟩) hHeld ?_
                rotate_left 1
                · intro w' hSw
                  (try dsimp only at hSw)
                  go_simp
                  try with_reducible rfl
                try simp only [Act.put, List.setIfInBounds_toArray, List.set_cons_zero, List.set_cons_succ, List.getElem_toArray, List.getElem_cons_zero, List.getElem_cons_succ]
                refine wpAnyH_take (i := 2) (v := ?_) (by rfl) (by kernel_rfl) (by kernel_rfl) (by kernel_rfl) (by exact fun _ _ _ h => h) (Or.inl ⟨by rfl, ?_⟩) hHeld ?_
                rotate_left 1
                · intro w' hSw
                  (try dsimp only at hSw)
                  go_simp
                  try with_reducible rfl
                try simp only [Act.put, List.setIfInBounds_toArray, List.set_cons_zero, List.set_cons_succ, List.getElem_toArray, List.getElem_cons_zero, List.getElem_cons_succ]
                refine wpAnyH_take (i := 3) (v := .bool true) (by rfl) (by kernel_rfl) (by kernel_rfl) (by kernel_rfl) (by exact fun _ _ _ h => h) (Or.inl ⟨by rfl, ?_⟩) hHeld ?_
                · intro w' hSw
                  go_simp
                  exact HEP.out.trans (by decide)
                try simp only [Act.put, List.setIfInBounds_toArray, List.set_cons_zero, List.set_cons_succ, List.getElem_toArray, List.getElem_cons_zero, List.getElem_cons_succ]
                refine wpAnyH_take (i := 4) (v := ?_) (by rfl) (by kernel_rfl) (by kernel_rfl) (by kernel_rfl) (by exact fun _ _ _ h => h) (Or.inl ⟨by rfl, ?_⟩) hHeld ?_
                rotate_left 1
                · intro w' hSw
                  (try dsimp only at hSw)
                  go_simp
                  try with_reducible rfl
                try simp only [Act.put, List.setIfInBounds_toArray, List.set_cons_zero, List.set_cons_succ, List.getElem_toArray, List.getElem_cons_zero, List.getElem_cons_succ]
                refine wpAnyH_take (i := 5) (v := ?_) (by rfl) (by kernel_rfl) (by kernel_rfl) (by kernel_rfl) (by exact fun _ _ _ h => h) (Or.inl ⟨by rfl, ?_⟩) hHeld ?_
                rotate_left 1
                · intro w' hSw
                  (try dsimp only at hSw)
                  go_simp
                  try with_reducible rfl
                try simp only [Act.put, List.setIfInBounds_toArray, List.set_cons_zero, List.set_cons_succ, List.getElem_toArray, List.getElem_cons_zero, List.getElem_cons_succ]
                refine wpAnyH_take (i := 6) (v := ?_) (by rfl) (by kernel_rfl) (by kernel_rfl) (by kernel_rfl) (by exact fun _ _ _ h => h) (Or.inl ⟨by rfl, ?_⟩) hHeld ?_
                rotate_left 1
                · intro w' hSw
                  (try dsimp only at hSw)
                  go_simp
                  try with_reducible rfl
                try simp only [Act.put, List.setIfInBounds_toArray, List.set_cons_zero, List.set_cons_succ, List.getElem_toArray, List.getElem_cons_zero, List.getElem_cons_succ]
                refine wpAnyH_take (i := 7) (v := ?_) (by rfl) (by kernel_rfl) (by kernel_rfl) (by kernel_rfl) (by exact fun _ _ _ h => h) (Or.inl ⟨by rfl, ?_⟩) hHeld ?_
                rotate_left 1
                · intro w' hSw
                  (try dsimp only at hSw)
                  go_simp
                  try with_reducible rfl
                try simp only [Act.put, List.setIfInBounds_toArray, List.set_cons_zero, List.set_cons_succ, List.getElem_toArray, List.getElem_cons_zero, List.getElem_cons_succ]
                refine wpAnyH_take (i := 8) (v := ?_) (by rfl) (by kernel_rfl) (by kernel_rfl) (by kernel_rfl) (by exact fun _ _ _ h => h) (Or.inl ⟨by rfl, ?_⟩) hHeld ?_
                rotate_left 1
                · intro w' hSw
                  (try dsimp only at hSw)
                  go_simp
                  try with_reducible rfl
                try simp only [Act.put, List.setIfInBounds_toArray, List.set_cons_zero, List.set_cons_succ, List.getElem_toArray, List.getElem_cons_zero, List.getElem_cons_succ]
                refine wpAnyH_take (i := 9) (v := ?_) (by rfl) (by kernel_rfl) (by kernel_rfl) (by kernel_rfl) (by exact fun _ _ _ h => h) (Or.inl ⟨by rfl, ?_⟩) hHeld ?_
                rotate_left 1
                · intro w' hSw
                  (try dsimp only at hSw)
                  go_simp
                  try with_reducible rfl
                try simp only [Act.put, List.setIfInBounds_toArray, List.set_cons_zero, List.set_cons_succ, List.getElem_toArray, List.getElem_cons_zero, List.getElem_cons_succ]
                refine wpAnyH_take (i := 10) (v := .string (txt bL)) (by rfl) (by kernel_rfl) (by kernel_rfl) (by kernel_rfl) (by exact fun _ _ _ h => h) (Or.inl ⟨by rfl, ?_⟩) hHeld ?_
                · intro w' hSw
                  exact run_txt_op (.tmp 177) rfl a' bL c' rfl hSw.2.1
                try simp only [Act.put, List.setIfInBounds_toArray, List.set_cons_zero, List.set_cons_succ, List.getElem_toArray, List.getElem_cons_zero, List.getElem_cons_succ]
                refine wpAnyH_take (i := 11) (v := ?_) (by rfl) (by kernel_rfl) (by kernel_rfl) (by kernel_rfl) (by exact fun _ _ _ h => h) (Or.inl ⟨by rfl, ?_⟩) hHeld ?_
                rotate_left 1
                · intro w' hSw
                  (try dsimp only at hSw)
                  go_simp
                  try with_reducible rfl
                try simp only [Act.put, List.setIfInBounds_toArray, List.set_cons_zero, List.set_cons_succ, List.getElem_toArray, List.getElem_cons_zero, List.getElem_cons_succ]
                refine wpAnyH_take (i := 12) (v := ?_) (by rfl) (by kernel_rfl) (by kernel_rfl) (by kernel_rfl) (by exact fun _ _ _ h => h) (Or.inl ⟨by rfl, ?_⟩) hHeld ?_
                rotate_left 1
                · intro w' hSw
                  (try dsimp only at hSw)
                  go_simp
                  try with_reducible rfl
                try simp only [Act.put, List.setIfInBounds_toArray, List.set_cons_zero, List.set_cons_succ, List.getElem_toArray, List.getElem_cons_zero, List.getElem_cons_succ]
                refine wpAnyH_take (i := 13) (v := .pointer (some ⟨lg, loff, none⟩)) (by rfl) (by kernel_rfl) (by kernel_rfl) (by kernel_rfl) (by exact fun _ _ _ h => h) (Or.inl ⟨by rfl, ?_⟩) hHeld ?_
                · intro w' hSw
                  go_simp
                try simp only [Act.put, List.setIfInBounds_toArray, List.set_cons_zero, List.set_cons_succ, List.getElem_toArray, List.getElem_cons_zero, List.getElem_cons_succ]
                refine wpAnyH_take (i := 14) (v := ?_) (by rfl) (by kernel_rfl) (by kernel_rfl) (by kernel_rfl) (by exact fun _ _ _ h => h) (Or.inl ⟨by rfl, ?_⟩) hHeld ?_
                rotate_left 1
                · intro w' hSw
                  (try dsimp only at hSw)
                  go_simp
                  try with_reducible rfl
                try simp only [Act.put, List.setIfInBounds_toArray, List.set_cons_zero, List.set_cons_succ, List.getElem_toArray, List.getElem_cons_zero, List.getElem_cons_succ]
                refine wpAnyH_take (i := 15) (v := .string (txt bL)) (by rfl) (by kernel_rfl) (by kernel_rfl) (by kernel_rfl) (by exact fun _ _ _ h => h) (Or.inl ⟨by rfl, ?_⟩) hHeld ?_
                · intro w' hSw
                  exact run_txt_op (.tmp 182) rfl rb bL rcb rfl hSw.2.2
                try simp only [Act.put, List.setIfInBounds_toArray, List.set_cons_zero, List.set_cons_succ, List.getElem_toArray, List.getElem_cons_zero, List.getElem_cons_succ]
                refine wpAnyH_take (i := 16) (v := ?_) (by rfl) (by kernel_rfl) (by kernel_rfl) (by kernel_rfl) (by exact fun _ _ _ h => h) (Or.inl ⟨by rfl, ?_⟩) hHeld ?_
                rotate_left 1
                · intro w' hSw
                  (try dsimp only at hSw)
                  go_simp
                  try with_reducible rfl
                try simp only [Act.put, List.setIfInBounds_toArray, List.set_cons_zero, List.set_cons_succ, List.getElem_toArray, List.getElem_cons_zero, List.getElem_cons_succ]
                refine wpAnyH_take (i := 17) (v := ?_) (by rfl) (by kernel_rfl) (by kernel_rfl) (by kernel_rfl) (by exact fun _ _ _ h => h) (Or.inl ⟨by rfl, ?_⟩) hHeld ?_
                rotate_left 1
                · intro w' hSw
                  (try dsimp only at hSw)
                  go_simp
                  try with_reducible rfl
                try simp only [Act.put, List.setIfInBounds_toArray, List.set_cons_zero, List.set_cons_succ, List.getElem_toArray, List.getElem_cons_zero, List.getElem_cons_succ]
                refine wpAnyH_take (i := 18) (v := ?_) (by rfl) (by kernel_rfl) (by kernel_rfl) (by kernel_rfl) (by exact fun _ _ _ h => h) (Or.inl ⟨by rfl, ?_⟩) hHeld ?_
                rotate_left 1
                · intro w' hSw
                  (try dsimp only at hSw)
                  go_simp
                  try with_reducible rfl
                try simp only [Act.put, List.setIfInBounds_toArray, List.set_cons_zero, List.set_cons_succ, List.getElem_toArray, List.getElem_cons_zero, List.getElem_cons_succ]
                refine wpAnyH_done (by kernel_rfl) ?_ _
                clear hHeld
                clear hcL8 hRL8 hbL8 hra8 hrc8 hB8 hB9
                go_wp2_with fail
                refine (last_save HR8.out HCS.out HWI.out (by omega) HN.out.1 HN.out.2 HCB.out.1 HCB.out.2).mono ?_
                rintro e W10 ⟨rfl, v9, D, hr10, htl⟩
                have HLD2 := Lib.hid (Load_any hr10.1 (by have := HN.out; omega) 7)
                rw [htl] at HLD2
                have HR10 := Lib.hid hr10
                clear htl hr10 HR8
                go_wp2_with fail
                refine HLD2.out.mono ?_
                rintro e W11 ⟨a9, l9, c9, ep9, er9, rfl, hb11, hl9, hE9, rfl, hsa9, _⟩
                obtain rfl : l9 = 3 := hl9
                obtain rfl : ep9 = ep + 1 := by rw [hE9]; show (((0 + 1) + 1 : Nat) : Int) = _; have := HEP.out; omega
                have hep3 : 0 ≤ ep := by have := HEP.out; omega
                have hep4 : ep ≤ 100 := by have := HEP.out; omega
                have hr11 := HR10.out.below hb11
                have h11 := (HO3.out.reach hr11).below
                have HSAY : Hid (Says w0 (.returned (.bool true)) W11) := Lib.hid ⟨rfl, h11⟩
                have hB11 : BytesAt W11 a9 [1, 2, 3] := hsa9.1
                clear hE9 hb11 hr11 h11 hsa9 HLD2 HR10
                go_wp2_with (first | (refine wpList_val (.string { data := #[1, 2, 3] }) ((run_txt_op (.tmp 216) (by with_reducible rfl) a9 [1, 2, 3] c9 (by rfl) hB11).trans (by rw [txt123])) (by rfl) ?_))
                go_ret
                exact HSAY.out
            · skip
              have HWI := Lib.hid hW
              have HLD := Lib.hid (Load_any HR7.out.1 (by have := HN.out; omega) 7)
              rw [hW.tells, if_pos rfl] at HLD
              clear hW
              go_wp2_with fail
              refine HLD.out.mono ?_
              rintro e W8 ⟨a', l8, c', ep, er, rfl, hb8, hm⟩
              obtain ⟨rfl, rfl, rfl, rfl, rfl⟩ := hm
              have hr8 := HR7.out.below hb8
              have hcL8 := hcell.out W8.drew (HO3.out.reach hr8).below.drew 0 (by omega)
              rw [Nat.add_zero] at hcL8
              have hB8 : BytesAt W8 none [] := .inl rfl
              have hRL8 : BytesAt W8.drew rb bL := HRL.out.2.1.kept (HO3.out.reach hr8).below.drew
              have hbL8 : (xs.getD 0 default).bs = bL := HBLE.out
              have hra8 : (xs.getD 0 default).a = rb := HRAE.out
              have hrc8 : (xs.getD 0 default).c = rcb := HRCE.out
              rw [hbL8, hra8, hrc8] at hcL8
              have hB9 : BytesAt W8.drew none [] := hB8
              have HR8 := Lib.hid hr8
              clear hb8 hr8 HLD
              go_wp2_with (first | (refine wpList_val (.string (txt [])) (run_txt_op (.tmp 162) (by with_reducible rfl) none [] 0 (by rfl) hB8) (by rfl) ?_) | (refine wpList_val (.string (txt [])) (run_txt_op (.tmp 164) (by with_reducible rfl) none [] 0 (by rfl) (.inl rfl)) (by rfl) ?_))
              refine wp_region_held_drew (S := (fun _ => True)) (by kernel_rfl) ?_ (fun hHeld => ?_)
              · trivial
              refine wpAnyH_take (i := 0) (v := ?_) (by rfl) (by kernel_rfl) (by kernel_rfl) (by kernel_rfl) (by exact fun _ _ _ h => h) (Or.inl ⟨by rfl, ?_⟩) hHeld ?_
              rotate_left 1
              · intro w' hSw
                (try dsimp only at hSw)
                go_simp
                try with_reducible rfl
              try simp only [Act.put, List.setIfInBounds_toArray, List.set_cons_zero, List.set_cons_succ, List.getElem_toArray, List.getElem_cons_zero, List.getElem_cons_succ]
              refine wpAnyH_take (i := 1) (v := ?_) (by rfl) (by kernel_rfl) (by kernel_rfl) (by kernel_rfl) (by exact fun _ _ _ h => h) (Or.inl ⟨by rfl, ?_⟩) hHeld ?_
              rotate_left 1
              · intro w' hSw
                (try dsimp only at hSw)
                go_simp
                try with_reducible rfl
              try simp only [Act.put, List.setIfInBounds_toArray, List.set_cons_zero, List.set_cons_succ, List.getElem_toArray, List.getElem_cons_zero, List.getElem_cons_succ]
              refine wpAnyH_take (i := 2) (v := ?_) (by rfl) (by kernel_rfl) (by kernel_rfl) (by kernel_rfl) (by exact fun _ _ _ h => h) (Or.inl ⟨by rfl, ?_⟩) hHeld ?_
              rotate_left 1
              · intro w' hSw
                (try dsimp only at hSw)
                go_simp
                try with_reducible rfl
              try simp only [Act.put, List.setIfInBounds_toArray, List.set_cons_zero, List.set_cons_succ, List.getElem_toArray, List.getElem_cons_zero, List.getElem_cons_succ]
              refine wpAnyH_take (i := 3) (v := .bool false) (by rfl) (by kernel_rfl) (by kernel_rfl) (by kernel_rfl) (by exact fun _ _ _ h => h) (Or.inl ⟨by rfl, ?_⟩) hHeld ?_
              · intro w' hSw
                go_simp
                decide
              try simp only [Act.put, List.setIfInBounds_toArray, List.set_cons_zero, List.set_cons_succ, List.getElem_toArray, List.getElem_cons_zero, List.getElem_cons_succ]
              refine wpAnyH_take (i := 4) (v := ?_) (by rfl) (by kernel_rfl) (by kernel_rfl) (by kernel_rfl) (by exact fun _ _ _ h => h) (Or.inl ⟨by rfl, ?_⟩) hHeld ?_
              rotate_left 1
              · intro w' hSw
                (try dsimp only at hSw)
                go_simp
                try with_reducible rfl
              try simp only [Act.put, List.setIfInBounds_toArray, List.set_cons_zero, List.set_cons_succ, List.getElem_toArray, List.getElem_cons_zero, List.getElem_cons_succ]
              refine wpAnyH_take (i := 5) (v := undef) (by rfl) (by kernel_rfl) (by kernel_rfl) (by kernel_rfl) (by exact fun _ _ _ h => h) (Or.inr ⟨by rfl, rfl⟩) hHeld ?_
              try simp only [Act.put, List.setIfInBounds_toArray, List.set_cons_zero, List.set_cons_succ, List.getElem_toArray, List.getElem_cons_zero, List.getElem_cons_succ]
              refine wpAnyH_take (i := 6) (v := undef) (by rfl) (by kernel_rfl) (by kernel_rfl) (by kernel_rfl) (by exact fun _ _ _ h => h) (Or.inr ⟨by rfl, rfl⟩) hHeld ?_
              try simp only [Act.put, List.setIfInBounds_toArray, List.set_cons_zero, List.set_cons_succ, List.getElem_toArray, List.getElem_cons_zero, List.getElem_cons_succ]
              refine wpAnyH_take (i := 7) (v := ?_) (by rfl) (by kernel_rfl) (by kernel_rfl) (by kernel_rfl) (by exact fun _ _ _ h => h) (Or.inl ⟨by rfl, ?_⟩) hHeld ?_
              rotate_left 1
              · intro w' hSw
                (try dsimp only at hSw)
                go_simp
                try with_reducible rfl
              try simp only [Act.put, List.setIfInBounds_toArray, List.set_cons_zero, List.set_cons_succ, List.getElem_toArray, List.getElem_cons_zero, List.getElem_cons_succ]
              refine wpAnyH_take (i := 8) (v := ?_) (by rfl) (by kernel_rfl) (by kernel_rfl) (by kernel_rfl) (by exact fun _ _ _ h => h) (Or.inl ⟨by rfl, ?_⟩) hHeld ?_
              rotate_left 1
              · intro w' hSw
                (try dsimp only at hSw)
                go_simp
                try with_reducible rfl
              try simp only [Act.put, List.setIfInBounds_toArray, List.set_cons_zero, List.set_cons_succ, List.getElem_toArray, List.getElem_cons_zero, List.getElem_cons_succ]
              refine wpAnyH_take (i := 9) (v := undef) (by rfl) (by kernel_rfl) (by kernel_rfl) (by kernel_rfl) (by exact fun _ _ _ h => h) (Or.inr ⟨by rfl, rfl⟩) hHeld ?_
              try simp only [Act.put, List.setIfInBounds_toArray, List.set_cons_zero, List.set_cons_succ, List.getElem_toArray, List.getElem_cons_zero, List.getElem_cons_succ]
              refine wpAnyH_take (i := 10) (v := undef) (by rfl) (by kernel_rfl) (by kernel_rfl) (by kernel_rfl) (by exact fun _ _ _ h => h) (Or.inr ⟨by rfl, rfl⟩) hHeld ?_
              try simp only [Act.put, List.setIfInBounds_toArray, List.set_cons_zero, List.set_cons_succ, List.getElem_toArray, List.getElem_cons_zero, List.getElem_cons_succ]
              refine wpAnyH_take (i := 11) (v := undef) (by rfl) (by kernel_rfl) (by kernel_rfl) (by kernel_rfl) (by exact fun _ _ _ h => h) (Or.inr ⟨by rfl, rfl⟩) hHeld ?_
              try simp only [Act.put, List.setIfInBounds_toArray, List.set_cons_zero, List.set_cons_succ, List.getElem_toArray, List.getElem_cons_zero, List.getElem_cons_succ]
              refine wpAnyH_take (i := 12) (v := undef) (by rfl) (by kernel_rfl) (by kernel_rfl) (by kernel_rfl) (by exact fun _ _ _ h => h) (Or.inr ⟨by rfl, rfl⟩) hHeld ?_
              try simp only [Act.put, List.setIfInBounds_toArray, List.set_cons_zero, List.set_cons_succ, List.getElem_toArray, List.getElem_cons_zero, List.getElem_cons_succ]
              refine wpAnyH_take (i := 13) (v := undef) (by rfl) (by kernel_rfl) (by kernel_rfl) (by kernel_rfl) (by exact fun _ _ _ h => h) (Or.inr ⟨by rfl, rfl⟩) hHeld ?_
              try simp only [Act.put, List.setIfInBounds_toArray, List.set_cons_zero, List.set_cons_succ, List.getElem_toArray, List.getElem_cons_zero, List.getElem_cons_succ]
              refine wpAnyH_take (i := 14) (v := undef) (by rfl) (by kernel_rfl) (by kernel_rfl) (by kernel_rfl) (by exact fun _ _ _ h => h) (Or.inr ⟨by rfl, rfl⟩) hHeld ?_
              try simp only [Act.put, List.setIfInBounds_toArray, List.set_cons_zero, List.set_cons_succ, List.getElem_toArray, List.getElem_cons_zero, List.getElem_cons_succ]
              refine wpAnyH_take (i := 15) (v := undef) (by rfl) (by kernel_rfl) (by kernel_rfl) (by kernel_rfl) (by exact fun _ _ _ h => h) (Or.inr ⟨by rfl, rfl⟩) hHeld ?_
              try simp only [Act.put, List.setIfInBounds_toArray, List.set_cons_zero, List.set_cons_succ, List.getElem_toArray, List.getElem_cons_zero, List.getElem_cons_succ]
              refine wpAnyH_take (i := 16) (v := undef) (by rfl) (by kernel_rfl) (by kernel_rfl) (by kernel_rfl) (by exact fun _ _ _ h => h) (Or.inr ⟨by rfl, rfl⟩) hHeld ?_
              try simp only [Act.put, List.setIfInBounds_toArray, List.set_cons_zero, List.set_cons_succ, List.getElem_toArray, List.getElem_cons_zero, List.getElem_cons_succ]
              refine wpAnyH_take (i := 17) (v := ?_) (by rfl) (by kernel_rfl) (by kernel_rfl) (by kernel_rfl) (by exact fun _ _ _ h => h) (Or.inl ⟨by rfl, ?_⟩) hHeld ?_
              rotate_left 1
              · intro w' hSw
                (try dsimp only at hSw)
                go_simp
                try with_reducible rfl
              try simp only [Act.put, List.setIfInBounds_toArray, List.set_cons_zero, List.set_cons_succ, List.getElem_toArray, List.getElem_cons_zero, List.getElem_cons_succ]
              refine wpAnyH_take (i := 18) (v := ?_) (by rfl) (by kernel_rfl) (by kernel_rfl) (by kernel_rfl) (by exact fun _ _ _ h => h) (Or.inl ⟨by rfl, ?_⟩) hHeld ?_
              rotate_left 1
              · intro w' hSw
                (try dsimp only at hSw)
                go_simp
                try with_reducible rfl
              try simp only [Act.put, List.setIfInBounds_toArray, List.set_cons_zero, List.set_cons_succ, List.getElem_toArray, List.getElem_cons_zero, List.getElem_cons_succ]
              refine wpAnyH_done (by kernel_rfl) ?_ _
              clear hHeld
              clear hcL8 hRL8 hbL8 hra8 hrc8 hB8 hB9
              go_wp2_with fail
              refine (last_save HR8.out HCS.out HWI.out (by omega) HN.out.1 HN.out.2 HCB.out.1 HCB.out.2).mono ?_
              rintro e W10 ⟨rfl, v9, D, hr10, htl⟩
              have HLD2 := Lib.hid (Load_any hr10.1 (by have := HN.out; omega) 7)
              rw [htl] at HLD2
              have HR10 := Lib.hid hr10
              clear htl hr10 HR8
              go_wp2_with fail
              refine HLD2.out.mono ?_
              rintro e W11 ⟨a9, l9, c9, ep9, er9, rfl, hb11, hl9, hE9, rfl, hsa9, _⟩
              obtain rfl : l9 = 3 := hl9
              obtain rfl : ep9 = 1 := by rw [hE9]; show ((0 + 1 : Nat) : Int) = _; omega
              have hr11 := HR10.out.below hb11
              have h11 := (HO3.out.reach hr11).below
              have HSAY : Hid (Says w0 (.returned (.bool true)) W11) := Lib.hid ⟨rfl, h11⟩
              have hB11 : BytesAt W11 a9 [1, 2, 3] := hsa9.1
              clear hE9 hb11 hr11 h11 hsa9 HLD2 HR10
              go_wp2_with (first | (refine wpList_val (.string { data := #[1, 2, 3] }) ((run_txt_op (.tmp 216) (by with_reducible rfl) a9 [1, 2, 3] c9 (by rfl) hB11).trans (by rw [txt123])) (by rfl) ?_))
              go_ret
              exact HSAY.out
          · obtain ⟨l1, rfl⟩ : ∃ l1, lst = l1 + 1 := ⟨lst - 1, by omega⟩
            clear hz
            have HONE := Lib.hid h1
            have HST := Lib.hid h2
            have HINV := Lib.hid h3
            have HSP := Lib.hid h4
            have HOP := Lib.hid h5
            have HLD := Lib.hid (Load_any h1.one (by have := HN.out; omega) 7)
            rw [h3.w.tells, if_neg (by omega)] at HLD
            clear h1 h2 h3 h4 h5 HK
            go_wp2_with fail
            refine HLD.out.mono ?_
            rintro e W3 ⟨a, l3, c, ep, er, rfl, hb3, hm⟩
            obtain ⟨rfl, rfl, rfl, hsa, hnw⟩ := hm
            have HO3 := Lib.hid (HONE.out.kept hb3.drew)
            have hr0 := HROW.out l1 (by omega)
            have hc0 := hcell.out W3.drew HO3.out.below l1 (by omega)
            obtain ⟨x0, hx0⟩ : ∃ x, (xs.getD l1 default).bs = x := ⟨_, rfl⟩
            simp only [Nat.add_sub_cancel, hx0] at hsa hnw hr0 hc0 HINV ⊢
            have hfo3 : ∀ x, 0 < x0.length → a = some x → ¬ Foot d s l v x.block := fun x hx0 hx hk => by
              have h1 := HONE.out.one.lt _ hk
              have h2 := hnw (by intro e; rw [e] at hx0; simp at hx0) x hx
              omega
            have hbx := hsa.1.kept ((Below.refl W3.heap.size W3).drew)
            have hrx := hr0.2.1.kept HO3.out.below
            have hl1w : IntKind.i64.wrap (l1 : Int) = (l1 : Int) := IntWalk.i64_in _ (by omega)
            have hl1lt : (l1 : Int) < (l1 : Int) + 1 + 1 := by omega
            have HBX := Lib.hid hbx
            have HFX := Lib.hid hfo3
            generalize (xs.getD l1 default).a = ra at *
            generalize (xs.getD l1 default).c = rc at *
            clear HLD hb3 HONE hsa hnw hr0 hfo3 hx0
            go_wp2_with fail
            refine wp_region_held_drew (S := (fun w' => w'.cell? ⟨lg, loff + l1, none⟩ = some (.slice ra x0.length rc) ∧ BytesAt w' a x0 ∧ BytesAt w' ra x0)) (by kernel_rfl) ?_ (fun hHeld => ?_)
            · exact ⟨hc0, hbx, hrx⟩
            refine wpAnyH_take (i := 0) (v := ?_) (by rfl) (by kernel_rfl) (by kernel_rfl) (by kernel_rfl) (by exact fun _ _ _ h => h) (Or.inl ⟨by rfl, ?_⟩) hHeld ?_
            rotate_left 1
            · intro w' hSw
              (try dsimp only at hSw)
              go_simp
              try with_reducible rfl
            try simp only [Act.put, List.setIfInBounds_toArray, List.set_cons_zero, List.set_cons_succ, List.getElem_toArray, List.getElem_cons_zero, List.getElem_cons_succ]
            refine wpAnyH_take (i := 1) (v := ?_) (by rfl) (by kernel_rfl) (by kernel_rfl) (by kernel_rfl) (by exact fun _ _ _ h => h) (Or.inl ⟨by rfl, ?_⟩) hHeld ?_
            rotate_left 1
            · intro w' hSw
              (try dsimp only at hSw)
              go_simp
              try with_reducible rfl
            try simp only [Act.put, List.setIfInBounds_toArray, List.set_cons_zero, List.set_cons_succ, List.getElem_toArray, List.getElem_cons_zero, List.getElem_cons_succ]
            refine wpAnyH_take (i := 2) (v := ?_) (by rfl) (by kernel_rfl) (by kernel_rfl) (by kernel_rfl) (by exact fun _ _ _ h => h) (Or.inl ⟨by rfl, ?_⟩) hHeld ?_
            rotate_left 1
            · intro w' hSw
              (try dsimp only at hSw)
              go_simp
              try with_reducible rfl
            try simp only [Act.put, List.setIfInBounds_toArray, List.set_cons_zero, List.set_cons_succ, List.getElem_toArray, List.getElem_cons_zero, List.getElem_cons_succ]
            refine wpAnyH_take (i := 3) (v := ?_) (by rfl) (by kernel_rfl) (by kernel_rfl) (by kernel_rfl) (by exact fun _ _ _ h => h) (Or.inl ⟨by rfl, ?_⟩) hHeld ?_
            rotate_left 1
            · intro w' hSw
              (try dsimp only at hSw)
              go_simp
              try with_reducible rfl
            try simp only [Act.put, List.setIfInBounds_toArray, List.set_cons_zero, List.set_cons_succ, List.getElem_toArray, List.getElem_cons_zero, List.getElem_cons_succ]
            refine wpAnyH_take (i := 4) (v := ?_) (by rfl) (by kernel_rfl) (by kernel_rfl) (by kernel_rfl) (by exact fun _ _ _ h => h) (Or.inl ⟨by rfl, ?_⟩) hHeld ?_
            rotate_left 1
            · intro w' hSw
              (try dsimp only at hSw)
              go_simp
              try with_reducible rfl
            try simp only [Act.put, List.setIfInBounds_toArray, List.set_cons_zero, List.set_cons_succ, List.getElem_toArray, List.getElem_cons_zero, List.getElem_cons_succ]
            refine wpAnyH_take (i := 5) (v := ?_) (by rfl) (by kernel_rfl) (by kernel_rfl) (by kernel_rfl) (by exact fun _ _ _ h => h) (Or.inl ⟨by rfl, ?_⟩) hHeld ?_
            rotate_left 1
            · intro w' hSw
              (try dsimp only at hSw)
              go_simp
              try with_reducible rfl
            try simp only [Act.put, List.setIfInBounds_toArray, List.set_cons_zero, List.set_cons_succ, List.getElem_toArray, List.getElem_cons_zero, List.getElem_cons_succ]
            refine wpAnyH_take (i := 6) (v := ?_) (by rfl) (by kernel_rfl) (by kernel_rfl) (by kernel_rfl) (by exact fun _ _ _ h => h) (Or.inl ⟨by rfl, ?_⟩) hHeld ?_
            rotate_left 1
            · intro w' hSw
              (try dsimp only at hSw)
              go_simp
              try with_reducible rfl
            try simp only [Act.put, List.setIfInBounds_toArray, List.set_cons_zero, List.set_cons_succ, List.getElem_toArray, List.getElem_cons_zero, List.getElem_cons_succ]
            refine wpAnyH_take (i := 7) (v := ?_) (by rfl) (by kernel_rfl) (by kernel_rfl) (by kernel_rfl) (by exact fun _ _ _ h => h) (Or.inl ⟨by rfl, ?_⟩) hHeld ?_
            rotate_left 1
            · intro w' hSw
              (try dsimp only at hSw)
              go_simp
              try with_reducible rfl
            try simp only [Act.put, List.setIfInBounds_toArray, List.set_cons_zero, List.set_cons_succ, List.getElem_toArray, List.getElem_cons_zero, List.getElem_cons_succ]
            refine wpAnyH_take (i := 8) (v := ?_) (by rfl) (by kernel_rfl) (by kernel_rfl) (by kernel_rfl) (by exact fun _ _ _ h => h) (Or.inl ⟨by rfl, ?_⟩) hHeld ?_
            rotate_left 1
            · intro w' hSw
              (try dsimp only at hSw)
              go_simp
              try with_reducible rfl
            try simp only [Act.put, List.setIfInBounds_toArray, List.set_cons_zero, List.set_cons_succ, List.getElem_toArray, List.getElem_cons_zero, List.getElem_cons_succ]
            refine wpAnyH_take (i := 9) (v := ?_) (by rfl) (by kernel_rfl) (by kernel_rfl) (by kernel_rfl) (by exact fun _ _ _ h => h) (Or.inl ⟨by rfl, ?_⟩) hHeld ?_
            rotate_left 1
            · intro w' hSw
              (try dsimp only at hSw)
              go_simp
              try with_reducible rfl
            try simp only [Act.put, List.setIfInBounds_toArray, List.set_cons_zero, List.set_cons_succ, List.getElem_toArray, List.getElem_cons_zero, List.getElem_cons_succ]
            refine wpAnyH_take (i := 10) (v := .string (txt x0)) (by rfl) (by kernel_rfl) (by kernel_rfl) (by kernel_rfl) (by exact fun _ _ _ h => h) (Or.inl ⟨by rfl, ?_⟩) hHeld ?_
            · intro w' hSw
              exact run_txt_op (.tmp 108) rfl a x0 c rfl hSw.2.1
            try simp only [Act.put, List.setIfInBounds_toArray, List.set_cons_zero, List.set_cons_succ, List.getElem_toArray, List.getElem_cons_zero, List.getElem_cons_succ]
            refine wpAnyH_take (i := 11) (v := ?_) (by rfl) (by kernel_rfl) (by kernel_rfl) (by kernel_rfl) (by exact fun _ _ _ h => h) (Or.inl ⟨by rfl, ?_⟩) hHeld ?_
            rotate_left 1
            · intro w' hSw
              (try dsimp only at hSw)
              go_simp
              try with_reducible rfl
            try simp only [Act.put, List.setIfInBounds_toArray, List.set_cons_zero, List.set_cons_succ, List.getElem_toArray, List.getElem_cons_zero, List.getElem_cons_succ]
            refine wpAnyH_take (i := 12) (v := ?_) (by rfl) (by kernel_rfl) (by kernel_rfl) (by kernel_rfl) (by exact fun _ _ _ h => h) (Or.inl ⟨by rfl, ?_⟩) hHeld ?_
            rotate_left 1
            · intro w' hSw
              (try dsimp only at hSw)
              go_simp
              try with_reducible rfl
            try simp only [Act.put, List.setIfInBounds_toArray, List.set_cons_zero, List.set_cons_succ, List.getElem_toArray, List.getElem_cons_zero, List.getElem_cons_succ]
            refine wpAnyH_take (i := 13) (v := ?_) (by rfl) (by kernel_rfl) (by kernel_rfl) (by kernel_rfl) (by exact fun _ _ _ h => h) (Or.inl ⟨by rfl, ?_⟩) hHeld ?_
            rotate_left 1
            · intro w' hSw
              (try dsimp only at hSw)
              go_simp
              try with_reducible rfl
            try simp only [Act.put, List.setIfInBounds_toArray, List.set_cons_zero, List.set_cons_succ, List.getElem_toArray, List.getElem_cons_zero, List.getElem_cons_succ]
            refine wpAnyH_take (i := 14) (v := ?_) (by rfl) (by kernel_rfl) (by kernel_rfl) (by kernel_rfl) (by exact fun _ _ _ h => h) (Or.inl ⟨by rfl, ?_⟩) hHeld ?_
            rotate_left 1
            · intro w' hSw
              (try dsimp only at hSw)
              go_simp
              try with_reducible rfl
            try simp only [Act.put, List.setIfInBounds_toArray, List.set_cons_zero, List.set_cons_succ, List.getElem_toArray, List.getElem_cons_zero, List.getElem_cons_succ]
            refine wpAnyH_take (i := 15) (v := ?_) (by rfl) (by kernel_rfl) (by kernel_rfl) (by kernel_rfl) (by exact fun _ _ _ h => h) (Or.inl ⟨by rfl, ?_⟩) hHeld ?_
            rotate_left 1
            · intro w' hSw
              (try dsimp only at hSw)
              go_simp
              try with_reducible rfl
            try simp only [Act.put, List.setIfInBounds_toArray, List.set_cons_zero, List.set_cons_succ, List.getElem_toArray, List.getElem_cons_zero, List.getElem_cons_succ]
            refine wpAnyH_take (i := 16) (v := .string (txt x0)) (by rfl) (by kernel_rfl) (by kernel_rfl) (by kernel_rfl) (by exact fun _ _ _ h => h) (Or.inl ⟨by rfl, ?_⟩) hHeld ?_
            · intro w' hSw
              exact run_txt_op (.tmp 114) rfl ra x0 rc rfl hSw.2.2
            try simp only [Act.put, List.setIfInBounds_toArray, List.set_cons_zero, List.set_cons_succ, List.getElem_toArray, List.getElem_cons_zero, List.getElem_cons_succ]
            refine wpAnyH_take (i := 17) (v := ?_) (by rfl) (by kernel_rfl) (by kernel_rfl) (by kernel_rfl) (by exact fun _ _ _ h => h) (Or.inl ⟨by rfl, ?_⟩) hHeld ?_
            rotate_left 1
            · intro w' hSw
              (try dsimp only at hSw)
              go_simp
              try with_reducible rfl
            try simp only [Act.put, List.setIfInBounds_toArray, List.set_cons_zero, List.set_cons_succ, List.getElem_toArray, List.getElem_cons_zero, List.getElem_cons_succ]
            refine wpAnyH_take (i := 18) (v := ?_) (by rfl) (by kernel_rfl) (by kernel_rfl) (by kernel_rfl) (by exact fun _ _ _ h => h) (Or.inl ⟨by rfl, ?_⟩) hHeld ?_
            rotate_left 1
            · intro w' hSw
              (try dsimp only at hSw)
              go_simp
              try with_reducible rfl
            try simp only [Act.put, List.setIfInBounds_toArray, List.set_cons_zero, List.set_cons_succ, List.getElem_toArray, List.getElem_cons_zero, List.getElem_cons_succ]
            refine wpAnyH_take (i := 19) (v := ?_) (by rfl) (by kernel_rfl) (by kernel_rfl) (by kernel_rfl) (by exact fun _ _ _ h => h) (Or.inl ⟨by rfl, ?_⟩) hHeld ?_
            rotate_left 1
            · intro w' hSw
              (try dsimp only at hSw)
              go_simp
              try with_reducible rfl
            try simp only [Act.put, List.setIfInBounds_toArray, List.set_cons_zero, List.set_cons_succ, List.getElem_toArray, List.getElem_cons_zero, List.getElem_cons_succ]
            refine wpAnyH_take (i := 20) (v := ?_) (by rfl) (by kernel_rfl) (by kernel_rfl) (by kernel_rfl) (by exact fun _ _ _ h => h) (Or.inl ⟨by rfl, ?_⟩) hHeld ?_
            rotate_left 1
            · intro w' hSw
              (try dsimp only at hSw)
              go_simp
              try with_reducible rfl
            try simp only [Act.put, List.setIfInBounds_toArray, List.set_cons_zero, List.set_cons_succ, List.getElem_toArray, List.getElem_cons_zero, List.getElem_cons_succ]
            refine wpAnyH_take (i := 21) (v := ?_) (by rfl) (by kernel_rfl) (by kernel_rfl) (by kernel_rfl) (by exact fun _ _ _ h => h) (Or.inl ⟨by rfl, ?_⟩) hHeld ?_
            rotate_left 1
            · intro w' hSw
              (try dsimp only at hSw)
              go_simp
              try with_reducible rfl
            try simp only [Act.put, List.setIfInBounds_toArray, List.set_cons_zero, List.set_cons_succ, List.getElem_toArray, List.getElem_cons_zero, List.getElem_cons_succ]
            refine wpAnyH_take (i := 22) (v := ?_) (by rfl) (by kernel_rfl) (by kernel_rfl) (by kernel_rfl) (by exact fun _ _ _ h => h) (Or.inl ⟨by rfl, ?_⟩) hHeld ?_
            rotate_left 1
            · intro w' hSw
              (try dsimp only at hSw)
              go_simp
              try with_reducible rfl
            try simp only [Act.put, List.setIfInBounds_toArray, List.set_cons_zero, List.set_cons_succ, List.getElem_toArray, List.getElem_cons_zero, List.getElem_cons_succ]
            refine wpAnyH_take (i := 23) (v := ?_) (by rfl) (by kernel_rfl) (by kernel_rfl) (by kernel_rfl) (by exact fun _ _ _ h => h) (Or.inl ⟨by rfl, ?_⟩) hHeld ?_
            rotate_left 1
            · intro w' hSw
              (try dsimp only at hSw)
              go_simp
              try with_reducible rfl
            try simp only [Act.put, List.setIfInBounds_toArray, List.set_cons_zero, List.set_cons_succ, List.getElem_toArray, List.getElem_cons_zero, List.getElem_cons_succ]
            refine wpAnyH_take (i := 24) (v := ?_) (by rfl) (by kernel_rfl) (by kernel_rfl) (by kernel_rfl) (by exact fun _ _ _ h => h) (Or.inl ⟨by rfl, ?_⟩) hHeld ?_
            rotate_left 1
            · intro w' hSw
              (try dsimp only at hSw)
              go_simp
              try with_reducible rfl
            try simp only [Act.put, List.setIfInBounds_toArray, List.set_cons_zero, List.set_cons_succ, List.getElem_toArray, List.getElem_cons_zero, List.getElem_cons_succ]
            refine wpAnyH_done (by kernel_rfl) ?_ _
            clear hHeld
            clear hc0 hbx hrx
            obtain ⟨q, hq31, hqe⟩ := and31 stop
            have HOPS := Lib.hid (Ops_any HO3.out.one)
            have hst4 := Stop_any HO3.out.one (A.ops + q)
            have HSTOP : Hid (Calls Try.prog 9 #[.pointer (some ⟨d, 0, none⟩), .int .i64 ((A.ops : Int) + (q : Int))] W3.drew (Did d s l v n (A.stops ((A.ops + q : Nat) : Int)) W3.drew)) := Lib.hid (by rw [show (A.ops : Int) + (q : Int) = ((A.ops + q : Nat) : Int) by omega]; exact hst4)
            have hob : A.ops ≤ 1000 := by have := HOP.out; omega
            have hoi : (A.ops : Int) ≤ 1000 := by omega
            have hq31i : (q : Int) ≤ 31 := by omega
            have HQ := Lib.hid hq31
            have HOB := Lib.hid hob
            clear hst4 hq31 hob
            go_wp2_with (first | (go_at_call 10; refine HOPS.out.mono ?_; rintro e w' ⟨rfl, rfl⟩))
            refine HSTOP.out.mono ?_
            intro e W4 hd4
            have HD4 := Lib.hid hd4
            obtain ⟨rfl, _⟩ := hd4
            obtain ⟨v4, hr4⟩ := (Reach.start HO3.out.one).step HD4.out
            have ho4 := HO3.out.reach hr4
            have hrL := HROW.out (l1 + 1) (by omega)
            have hcL := hcell.out W4 ho4.below (l1 + 1) (by omega)
            have hlL := HLE.out (l1 + 1) (by omega)
            have hst : Still n (A.stops ((A.ops + q : Nat) : Int)) := ⟨⟨HST.out.fits.seen, HST.out.fits.last, HST.out.fits.wait, HST.out.fits.small⟩, HST.out.wait, HST.out.same⟩
            have hinv : SInv (A.stops ((A.ops + q : Nat) : Int)).seen n (l1 + 1) x0 p := HINV.out
            obtain ⟨bL, hbL⟩ : ∃ x, (xs.getD (l1 + 1) default).bs = x := ⟨_, rfl⟩
            rw [hbL] at hrL hcL hlL
            have hsv := Save_any ho4.one (by have := HN.out; omega) (f := 7) (c := (xs.getD (l1 + 1) default).c) (by omega) (hrL.2.1.kept ho4.below) (by rw [HRME.out]; exact hlL) hrL.2.2 (ho4.apart hrL.2.1) (by rw [hst.wait]; simp) (by show A.ops ≤ 10000; have := HOB.out; omega) (by rw [hinv.w.great]; omega)
            have HSV := Lib.hid hsv
            have HR4 := Lib.hid hr4
            have HRL := Lib.hid hrL
            have HLL2 := Lib.hid hlL
            have HI2 := Lib.hid (And.intro hst hinv)
            obtain ⟨rb, hrae⟩ : ∃ x, (xs.getD (l1 + 1) default).a = x := ⟨_, rfl⟩
            obtain ⟨rcb, hrce⟩ : ∃ x, (xs.getD (l1 + 1) default).c = x := ⟨_, rfl⟩
            rw [hrae, hrce] at hcL HSV HRL
            have HBLE := Lib.hid hbL
            have HRAE := Lib.hid hrae
            have HRCE := Lib.hid hrce
            clear hrae hrce
            clear hsv hrL hst hinv hlL ho4 hr4 HD4 HSTOP HOPS hbL
            go_wp2_with fail
            refine HSV.out.mono ?_
            rintro e W5 ⟨rfl, hd5'⟩
            obtain ⟨v5, hr5⟩ := HR4.out.step hd5'
            have HCA := Lib.hid (fun (m : Nat → Nat) (hm : ∀ k, m k ≤ 64) => save_crash (bs := bL) (q := q) hm HI2.out.1 HI2.out.2 HN.out.1 (by omega) (by rw [HRME.out]; exact HLL2.out) rfl hr5.1.fits)
            have HDEAD := Lib.hid (Dead_any hr5.1)
            generalize hBe : (A.stops ((A.ops + q : Nat) : Int)).saved n 7 bL = B at *
            have HBE := Lib.hid hBe
            have HR5 := Lib.hid hr5
            obtain ⟨bd, hbd⟩ : ∃ x, B.dead = x := ⟨_, rfl⟩
            rw [hbd] at HDEAD
            have HBD := Lib.hid hbd
            clear hbd hBe hr5 hd5' HSV HR4 HI2
            go_wp2_with fail
            refine HDEAD.out.mono ?_
            rintro e w' ⟨rfl, kd, rfl⟩
            have hr6 := HR5.out.below (show Below W5.heap.size W5 (W5.drewN kd) from below_drewN _ _)
            have ho6 := HO3.out.reach hr6
            have HCR0 := Crash_any hr6.1 (a := ka) (ks := ks) (c := kc) (torn := torn) (tear := tear) ⟨HKEEP.out.kept ho6.below, by have := HKS.out; omega, HT.out.1, HT.out.2, by
              by_cases hks : ks = []
              · exact .inl hks
              · right
                intro x hx hk
                have h1 := ho6.old _ hk
                rcases HKEEP.out with h | ⟨g, off, e, h⟩
                · exact hks h
                · rw [hx] at e
                  cases e
                  cases ks with
                  | nil => exact hks rfl
                  | cons b t =>
                    have h2 := World.block_lt_of_cell? _ _ (h 0 b rfl)
                    dsimp only at h1 h2
                    omega⟩
            rw [HKL.out] at HCR0
            have HCR := Lib.hid HCR0
            have HR6 := Lib.hid hr6
            clear HCR0 hr6 ho6 HDEAD HR5
            generalize W5.drewN kd = W6 at *
            go_wp2_with fail
            refine HCR.out.mono ?_
            intro e W7 hd7
            have HD7 := Lib.hid hd7
            obtain ⟨rfl, _⟩ := hd7
            obtain ⟨v7, hr7⟩ := HR6.out.step HD7.out
            have hca := HCA.out (muchN ks torn tear) (muchN_le ks torn tear)
            generalize hCe : B.crash (muchN ks torn tear) = C at *
            have hCo : C.ops = B.ops := by rw [← hCe]; rfl
            have hCs : C.stop = 9223372036854775807 := by rw [← hCe]; rfl
            obtain ⟨hs1, hs2, hs3, hs4⟩ := hca
            have hCb : C.ops ≤ 2000 := by
              have h1 := HOB.out
              have h2 := HLL2.out
              have h3 : (A.stops ((A.ops + q : Nat) : Int)).ops = A.ops := rfl
              rw [h3] at hs4
              omega
            rw [HBD.out] at hs3
            have HCS := Lib.hid hs1
            have HCB := Lib.hid (And.intro hCb hCs)
            have HR7 := Lib.hid hr7
            have hcL7 := hcell.out W7 (HO3.out.reach hr7).below (l1 + 1) (by omega)
            clear hCe hCo hCs hs1 hs4 hCb hr7 HD7 HCR HR6 HCA HBE HBD hcL
            have hcases : (WInv C.seen n ((l1 + 1) + 1) bL (1 - p)) ∨ (bd = true ∧ WInv C.seen n (l1 + 1) x0 p) := by
              cases bd
              · exact .inl (hs3 rfl)
              · rcases hs2 with h | h
                · exact .inr ⟨rfl, h⟩
                · exact .inl h
            clear hs2 hs3
            rcases hcases with hW | ⟨rfl, hW⟩
            · cases bd
              · skip
                have HWI := Lib.hid hW
                have HLD := Lib.hid (Load_any HR7.out.1 (by have := HN.out; omega) 7)
                rw [hW.tells, if_neg (by omega)] at HLD
                clear hW
                go_wp2_with fail
                refine HLD.out.mono ?_
                rintro e W8 ⟨a', l8, c', ep, er, rfl, hb8, hm⟩
                obtain ⟨rfl, hE, rfl, hsa, _⟩ := hm
                have hE0 : ep = ((l1 : Int) + 1 + 1 : Int) := by rw [hE]; simp
                have HEP := Lib.hid hE0
                have HE := Lib.hid hE
                have hep1 : (ep == (l1 : Int) + 1) = false := by rw [hE0]; simp; omega
                have hep2 : (ep == (l1 : Int) + 1 + 1) = true := by rw [hE0]; simp
                clear hE hE0
                have hr8 := HR7.out.below hb8
                have hcL8 := hcell.out W8.drew (HO3.out.reach hr8).below.drew (l1 + 1) (by omega)
                have hB8 : BytesAt W8 a' bL := hsa.1
                have hX8 : BytesAt W8 a x0 := (HR7.out.bytes HBX.out HFX.out).kept hb8
                have hRL8 : BytesAt W8.drew rb bL := HRL.out.2.1.kept (HO3.out.reach hr8).below.drew
                have hbL8 : (xs.getD (l1 + 1) default).bs = bL := HBLE.out
                have hra8 : (xs.getD (l1 + 1) default).a = rb := HRAE.out
                have hrc8 : (xs.getD (l1 + 1) default).c = rcb := HRCE.out
                rw [hbL8, hra8, hrc8] at hcL8
                have hB9 : BytesAt W8.drew a' bL := hB8
                have HR8 := Lib.hid hr8
                clear hb8 hr8 HLD hsa
                go_wp2_with fail
                refine wp_region_held_drew (S := (fun w' => w'.cell? ⟨lg, loff + (l1 + 1), none⟩ = some (.slice rb bL.length rcb) ∧ BytesAt w' a' bL ∧ BytesAt w' rb bL)) (by kernel_rfl) ?_ (fun hHeld => ?_)
                · exact ⟨hcL8, hB9, hRL8⟩
                refine wpAnyH_take (i := 0) (v := ?_) (by rfl) (by kernel_rfl) (by kernel_rfl) (by kernel_rfl) (by exact fun _ _ _ h => h) (Or.inl ⟨by rfl, ?_⟩) hHeld ?_
                rotate_left 1
                · intro w' hSw
                  (try dsimp only at hSw)
                  go_simp
                  try with_reducible rfl
                try simp only [Act.put, List.setIfInBounds_toArray, List.set_cons_zero, List.set_cons_succ, List.getElem_toArray, List.getElem_cons_zero, List.getElem_cons_succ]
                refine wpAnyH_take (i := 1) (v := ?_) (by rfl) (by kernel_rfl) (by kernel_rfl) (by kernel_rfl) (by exact fun _ _ _ h => h) (Or.inl ⟨by rfl, ?_⟩) hHeld ?_
                rotate_left 1
                · intro w' hSw
                  (try dsimp only at hSw)
                  go_simp
                  try with_reducible rfl
                try simp only [Act.put, List.setIfInBounds_toArray, List.set_cons_zero, List.set_cons_succ, List.getElem_toArray, List.getElem_cons_zero, List.getElem_cons_succ]
                refine wpAnyH_take (i := 2) (v := ?_) (by rfl) (by kernel_rfl) (by kernel_rfl) (by kernel_rfl) (by exact fun _ _ _ h => h) (Or.inl ⟨by rfl, ?_⟩) hHeld ?_
                rotate_left 1
                · intro w' hSw
                  (try dsimp only at hSw)
                  go_simp
                  try with_reducible rfl
                try simp only [Act.put, List.setIfInBounds_toArray, List.set_cons_zero, List.set_cons_succ, List.getElem_toArray, List.getElem_cons_zero, List.getElem_cons_succ]
                refine wpAnyH_take (i := 3) (v := .bool true) (by rfl) (by kernel_rfl) (by kernel_rfl) (by kernel_rfl) (by exact fun _ _ _ h => h) (Or.inl ⟨by rfl, ?_⟩) hHeld ?_
                · intro w' hSw
                  go_simp
                  exact HEP.out.trans (IntWalk.i64_in _ (by omega)).symm
                try simp only [Act.put, List.setIfInBounds_toArray, List.set_cons_zero, List.set_cons_succ, List.getElem_toArray, List.getElem_cons_zero, List.getElem_cons_succ]
                refine wpAnyH_take (i := 4) (v := ?_) (by rfl) (by kernel_rfl) (by kernel_rfl) (by kernel_rfl) (by exact fun _ _ _ h => h) (Or.inl ⟨by rfl, ?_⟩) hHeld ?_
                rotate_left 1
                · intro w' hSw
                  (try dsimp only at hSw)
                  go_simp
                  try with_reducible rfl
                try simp only [Act.put, List.setIfInBounds_toArray, List.set_cons_zero, List.set_cons_succ, List.getElem_toArray, List.getElem_cons_zero, List.getElem_cons_succ]
                refine wpAnyH_take (i := 5) (v := ?_) (by rfl) (by kernel_rfl) (by kernel_rfl) (by kernel_rfl) (by exact fun _ _ _ h => h) (Or.inl ⟨by rfl, ?_⟩) hHeld ?_
                rotate_left 1
                · intro w' hSw
                  (try dsimp only at hSw)
                  go_simp
                  try with_reducible rfl
                try simp only [Act.put, List.setIfInBounds_toArray, List.set_cons_zero, List.set_cons_succ, List.getElem_toArray, List.getElem_cons_zero, List.getElem_cons_succ]
                refine wpAnyH_take (i := 6) (v := ?_) (by rfl) (by kernel_rfl) (by kernel_rfl) (by kernel_rfl) (by exact fun _ _ _ h => h) (Or.inl ⟨by rfl, ?_⟩) hHeld ?_
                rotate_left 1
                · intro w' hSw
                  (try dsimp only at hSw)
                  go_simp
                  try with_reducible rfl
                try simp only [Act.put, List.setIfInBounds_toArray, List.set_cons_zero, List.set_cons_succ, List.getElem_toArray, List.getElem_cons_zero, List.getElem_cons_succ]
                refine wpAnyH_take (i := 7) (v := ?_) (by rfl) (by kernel_rfl) (by kernel_rfl) (by kernel_rfl) (by exact fun _ _ _ h => h) (Or.inl ⟨by rfl, ?_⟩) hHeld ?_
                rotate_left 1
                · intro w' hSw
                  (try dsimp only at hSw)
                  go_simp
                  try with_reducible rfl
                try simp only [Act.put, List.setIfInBounds_toArray, List.set_cons_zero, List.set_cons_succ, List.getElem_toArray, List.getElem_cons_zero, List.getElem_cons_succ]
                refine wpAnyH_take (i := 8) (v := ?_) (by rfl) (by kernel_rfl) (by kernel_rfl) (by kernel_rfl) (by exact fun _ _ _ h => h) (Or.inl ⟨by rfl, ?_⟩) hHeld ?_
                rotate_left 1
                · intro w' hSw
                  (try dsimp only at hSw)
                  go_simp
                  try with_reducible rfl
                try simp only [Act.put, List.setIfInBounds_toArray, List.set_cons_zero, List.set_cons_succ, List.getElem_toArray, List.getElem_cons_zero, List.getElem_cons_succ]
                refine wpAnyH_take (i := 9) (v := ?_) (by rfl) (by kernel_rfl) (by kernel_rfl) (by kernel_rfl) (by exact fun _ _ _ h => h) (Or.inl ⟨by rfl, ?_⟩) hHeld ?_
                rotate_left 1
                · intro w' hSw
                  (try dsimp only at hSw)
                  go_simp
                  try with_reducible rfl
                try simp only [Act.put, List.setIfInBounds_toArray, List.set_cons_zero, List.set_cons_succ, List.getElem_toArray, List.getElem_cons_zero, List.getElem_cons_succ]
                refine wpAnyH_take (i := 10) (v := .string (txt bL)) (by rfl) (by kernel_rfl) (by kernel_rfl) (by kernel_rfl) (by exact fun _ _ _ h => h) (Or.inl ⟨by rfl, ?_⟩) hHeld ?_
                · intro w' hSw
                  exact run_txt_op (.tmp 177) rfl a' bL c' rfl hSw.2.1
                try simp only [Act.put, List.setIfInBounds_toArray, List.set_cons_zero, List.set_cons_succ, List.getElem_toArray, List.getElem_cons_zero, List.getElem_cons_succ]
                refine wpAnyH_take (i := 11) (v := ?_) (by rfl) (by kernel_rfl) (by kernel_rfl) (by kernel_rfl) (by exact fun _ _ _ h => h) (Or.inl ⟨by rfl, ?_⟩) hHeld ?_
                rotate_left 1
                · intro w' hSw
                  (try dsimp only at hSw)
                  go_simp
                  try with_reducible rfl
                try simp only [Act.put, List.setIfInBounds_toArray, List.set_cons_zero, List.set_cons_succ, List.getElem_toArray, List.getElem_cons_zero, List.getElem_cons_succ]
                refine wpAnyH_take (i := 12) (v := ?_) (by rfl) (by kernel_rfl) (by kernel_rfl) (by kernel_rfl) (by exact fun _ _ _ h => h) (Or.inl ⟨by rfl, ?_⟩) hHeld ?_
                rotate_left 1
                · intro w' hSw
                  (try dsimp only at hSw)
                  go_simp
                  try with_reducible rfl
                try simp only [Act.put, List.setIfInBounds_toArray, List.set_cons_zero, List.set_cons_succ, List.getElem_toArray, List.getElem_cons_zero, List.getElem_cons_succ]
                refine wpAnyH_take (i := 13) (v := .pointer (some ⟨lg, loff + (l1 + 1), none⟩)) (by rfl) (by kernel_rfl) (by kernel_rfl) (by kernel_rfl) (by exact fun _ _ _ h => h) (Or.inl ⟨by rfl, ?_⟩) hHeld ?_
                · intro w' hSw
                  go_simp
                  intro h
                  exact absurd (h (by omega)) (by omega)
                try simp only [Act.put, List.setIfInBounds_toArray, List.set_cons_zero, List.set_cons_succ, List.getElem_toArray, List.getElem_cons_zero, List.getElem_cons_succ]
                refine wpAnyH_take (i := 14) (v := ?_) (by rfl) (by kernel_rfl) (by kernel_rfl) (by kernel_rfl) (by exact fun _ _ _ h => h) (Or.inl ⟨by rfl, ?_⟩) hHeld ?_
                rotate_left 1
                · intro w' hSw
                  (try dsimp only at hSw)
                  go_simp
                  try with_reducible rfl
                try simp only [Act.put, List.setIfInBounds_toArray, List.set_cons_zero, List.set_cons_succ, List.getElem_toArray, List.getElem_cons_zero, List.getElem_cons_succ]
                refine wpAnyH_take (i := 15) (v := .string (txt bL)) (by rfl) (by kernel_rfl) (by kernel_rfl) (by kernel_rfl) (by exact fun _ _ _ h => h) (Or.inl ⟨by rfl, ?_⟩) hHeld ?_
                · intro w' hSw
                  exact run_txt_op (.tmp 182) rfl rb bL rcb rfl hSw.2.2
                try simp only [Act.put, List.setIfInBounds_toArray, List.set_cons_zero, List.set_cons_succ, List.getElem_toArray, List.getElem_cons_zero, List.getElem_cons_succ]
                refine wpAnyH_take (i := 16) (v := ?_) (by rfl) (by kernel_rfl) (by kernel_rfl) (by kernel_rfl) (by exact fun _ _ _ h => h) (Or.inl ⟨by rfl, ?_⟩) hHeld ?_
                rotate_left 1
                · intro w' hSw
                  (try dsimp only at hSw)
                  go_simp
                  try with_reducible rfl
                try simp only [Act.put, List.setIfInBounds_toArray, List.set_cons_zero, List.set_cons_succ, List.getElem_toArray, List.getElem_cons_zero, List.getElem_cons_succ]
                refine wpAnyH_take (i := 17) (v := ?_) (by rfl) (by kernel_rfl) (by kernel_rfl) (by kernel_rfl) (by exact fun _ _ _ h => h) (Or.inl ⟨by rfl, ?_⟩) hHeld ?_
                rotate_left 1
                · intro w' hSw
                  (try dsimp only at hSw)
                  go_simp
                  try with_reducible rfl
                try simp only [Act.put, List.setIfInBounds_toArray, List.set_cons_zero, List.set_cons_succ, List.getElem_toArray, List.getElem_cons_zero, List.getElem_cons_succ]
                refine wpAnyH_take (i := 18) (v := ?_) (by rfl) (by kernel_rfl) (by kernel_rfl) (by kernel_rfl) (by exact fun _ _ _ h => h) (Or.inl ⟨by rfl, ?_⟩) hHeld ?_
                rotate_left 1
                · intro w' hSw
                  (try dsimp only at hSw)
                  go_simp
                  try with_reducible rfl
                try simp only [Act.put, List.setIfInBounds_toArray, List.set_cons_zero, List.set_cons_succ, List.getElem_toArray, List.getElem_cons_zero, List.getElem_cons_succ]
                refine wpAnyH_done (by kernel_rfl) ?_ _
                clear hHeld
                clear hcL8 hRL8 hbL8 hra8 hrc8 hB8 hB9
                go_wp2_with fail
                refine (last_save HR8.out HCS.out HWI.out (by omega) HN.out.1 HN.out.2 HCB.out.1 HCB.out.2).mono ?_
                rintro e W10 ⟨rfl, v9, D, hr10, htl⟩
                have HLD2 := Lib.hid (Load_any hr10.1 (by have := HN.out; omega) 7)
                rw [htl] at HLD2
                have HR10 := Lib.hid hr10
                clear htl hr10 HR8
                go_wp2_with fail
                refine HLD2.out.mono ?_
                rintro e W11 ⟨a9, l9, c9, ep9, er9, rfl, hb11, hl9, hE9, rfl, hsa9, _⟩
                obtain rfl : l9 = 3 := hl9
                obtain rfl : ep9 = ep + 1 := by rw [hE9]; show ((((l1 + 1) + 1) + 1 : Nat) : Int) = _; have := HEP.out; omega
                have hep3 : 0 ≤ ep := by have := HEP.out; omega
                have hep4 : ep ≤ 100 := by have := HEP.out; omega
                have hr11 := HR10.out.below hb11
                have h11 := (HO3.out.reach hr11).below
                have HSAY : Hid (Says w0 (.returned (.bool true)) W11) := Lib.hid ⟨rfl, h11⟩
                have hB11 : BytesAt W11 a9 [1, 2, 3] := hsa9.1
                clear hE9 hb11 hr11 h11 hsa9 HLD2 HR10
                go_wp2_with (first | (refine wpList_val (.string { data := #[1, 2, 3] }) ((run_txt_op (.tmp 216) (by with_reducible rfl) a9 [1, 2, 3] c9 (by rfl) hB11).trans (by rw [txt123])) (by rfl) ?_))
                go_ret
                exact HSAY.out
              · skip
                have HWI := Lib.hid hW
                have HLD := Lib.hid (Load_any HR7.out.1 (by have := HN.out; omega) 7)
                rw [hW.tells, if_neg (by omega)] at HLD
                clear hW
                go_wp2_with fail
                refine HLD.out.mono ?_
                rintro e W8 ⟨a', l8, c', ep, er, rfl, hb8, hm⟩
                obtain ⟨rfl, hE, rfl, hsa, _⟩ := hm
                have hE0 : ep = ((l1 : Int) + 1 + 1 : Int) := by rw [hE]; simp
                have HEP := Lib.hid hE0
                have HE := Lib.hid hE
                have hep1 : (ep == (l1 : Int) + 1) = false := by rw [hE0]; simp; omega
                have hep2 : (ep == (l1 : Int) + 1 + 1) = true := by rw [hE0]; simp
                clear hE hE0
                have hr8 := HR7.out.below hb8
                have hcL8 := hcell.out W8.drew (HO3.out.reach hr8).below.drew (l1 + 1) (by omega)
                have hB8 : BytesAt W8 a' bL := hsa.1
                have hX8 : BytesAt W8 a x0 := (HR7.out.bytes HBX.out HFX.out).kept hb8
                have hRL8 : BytesAt W8.drew rb bL := HRL.out.2.1.kept (HO3.out.reach hr8).below.drew
                have hbL8 : (xs.getD (l1 + 1) default).bs = bL := HBLE.out
                have hra8 : (xs.getD (l1 + 1) default).a = rb := HRAE.out
                have hrc8 : (xs.getD (l1 + 1) default).c = rcb := HRCE.out
                rw [hbL8, hra8, hrc8] at hcL8
                have hB9 : BytesAt W8.drew a' bL := hB8
                have HR8 := Lib.hid hr8
                clear hb8 hr8 HLD hsa
                go_wp2_with fail
                refine wp_region_held_drew (S := (fun w' => w'.cell? ⟨lg, loff + (l1 + 1), none⟩ = some (.slice rb bL.length rcb) ∧ BytesAt w' a' bL ∧ BytesAt w' rb bL)) (by kernel_rfl) ?_ (fun hHeld => ?_)
                · exact ⟨hcL8, hB9, hRL8⟩
                refine wpAnyH_take (i := 0) (v := ?_) (by rfl) (by kernel_rfl) (by kernel_rfl) (by kernel_rfl) (by exact fun _ _ _ h => h) (Or.inl ⟨by rfl, ?_⟩) hHeld ?_
                rotate_left 1
                · intro w' hSw
                  (try dsimp only at hSw)
                  go_simp
                  try with_reducible rfl
                try simp only [Act.put, List.setIfInBounds_toArray, List.set_cons_zero, List.set_cons_succ, List.getElem_toArray, List.getElem_cons_zero, List.getElem_cons_succ]
                refine wpAnyH_take (i := 1) (v := ?_) (by rfl) (by kernel_rfl) (by kernel_rfl) (by kernel_rfl) (by exact fun _ _ _ h => h) (Or.inl ⟨by rfl, ?_⟩) hHeld ?_
                rotate_left 1
                · intro w' hSw
                  (try dsimp only at hSw)
                  go_simp
                  try with_reducible rfl
                try simp only [Act.put, List.setIfInBounds_toArray, List.set_cons_zero, List.set_cons_succ, List.getElem_toArray, List.getElem_cons_zero, List.getElem_cons_succ]
                refine wpAnyH_take (i := 2) (v := ?_) (by rfl) (by kernel_rfl) (by kernel_rfl) (by kernel_rfl) (by exact fun _ _ _ h => h) (Or.inl ⟨by rfl, ?_⟩) hHeld ?_
                rotate_left 1
                · intro w' hSw
                  (try dsimp only at hSw)
                  go_simp
                  try with_reducible rfl
                try simp only [Act.put, List.setIfInBounds_toArray, List.set_cons_zero, List.set_cons_succ, List.getElem_toArray, List.getElem_cons_zero, List.getElem_cons_succ]
                refine wpAnyH_take (i := 3) (v := .bool true) (by rfl) (by kernel_rfl) (by kernel_rfl) (by kernel_rfl) (by exact fun _ _ _ h => h) (Or.inl ⟨by rfl, ?_⟩) hHeld ?_
                · intro w' hSw
                  go_simp
                  exact HEP.out.trans (IntWalk.i64_in _ (by omega)).symm
                try simp only [Act.put, List.setIfInBounds_toArray, List.set_cons_zero, List.set_cons_succ, List.getElem_toArray, List.getElem_cons_zero, List.getElem_cons_succ]
                refine wpAnyH_take (i := 4) (v := ?_) (by rfl) (by kernel_rfl) (by kernel_rfl) (by kernel_rfl) (by exact fun _ _ _ h => h) (Or.inl ⟨by rfl, ?_⟩) hHeld ?_
                rotate_left 1
                · intro w' hSw
                  (try dsimp only at hSw)
                  go_simp
                  try with_reducible rfl
                try simp only [Act.put, List.setIfInBounds_toArray, List.set_cons_zero, List.set_cons_succ, List.getElem_toArray, List.getElem_cons_zero, List.getElem_cons_succ]
                refine wpAnyH_take (i := 5) (v := ?_) (by rfl) (by kernel_rfl) (by kernel_rfl) (by kernel_rfl) (by exact fun _ _ _ h => h) (Or.inl ⟨by rfl, ?_⟩) hHeld ?_
                rotate_left 1
                · intro w' hSw
                  (try dsimp only at hSw)
                  go_simp
                  try with_reducible rfl
                try simp only [Act.put, List.setIfInBounds_toArray, List.set_cons_zero, List.set_cons_succ, List.getElem_toArray, List.getElem_cons_zero, List.getElem_cons_succ]
                refine wpAnyH_take (i := 6) (v := ?_) (by rfl) (by kernel_rfl) (by kernel_rfl) (by kernel_rfl) (by exact fun _ _ _ h => h) (Or.inl ⟨by rfl, ?_⟩) hHeld ?_
                rotate_left 1
                · intro w' hSw
                  (try dsimp only at hSw)
                  go_simp
                  try with_reducible rfl
                try simp only [Act.put, List.setIfInBounds_toArray, List.set_cons_zero, List.set_cons_succ, List.getElem_toArray, List.getElem_cons_zero, List.getElem_cons_succ]
                refine wpAnyH_take (i := 7) (v := ?_) (by rfl) (by kernel_rfl) (by kernel_rfl) (by kernel_rfl) (by exact fun _ _ _ h => h) (Or.inl ⟨by rfl, ?_⟩) hHeld ?_
                rotate_left 1
                · intro w' hSw
                  (try dsimp only at hSw)
                  go_simp
                  try with_reducible rfl
                try simp only [Act.put, List.setIfInBounds_toArray, List.set_cons_zero, List.set_cons_succ, List.getElem_toArray, List.getElem_cons_zero, List.getElem_cons_succ]
                refine wpAnyH_take (i := 8) (v := ?_) (by rfl) (by kernel_rfl) (by kernel_rfl) (by kernel_rfl) (by exact fun _ _ _ h => h) (Or.inl ⟨by rfl, ?_⟩) hHeld ?_
                rotate_left 1
                · intro w' hSw
                  (try dsimp only at hSw)
                  go_simp
                  try with_reducible rfl
                try simp only [Act.put, List.setIfInBounds_toArray, List.set_cons_zero, List.set_cons_succ, List.getElem_toArray, List.getElem_cons_zero, List.getElem_cons_succ]
                refine wpAnyH_take (i := 9) (v := ?_) (by rfl) (by kernel_rfl) (by kernel_rfl) (by kernel_rfl) (by exact fun _ _ _ h => h) (Or.inl ⟨by rfl, ?_⟩) hHeld ?_
                rotate_left 1
                · intro w' hSw
                  (try dsimp only at hSw)
                  go_simp
                  try with_reducible rfl
                try simp only [Act.put, List.setIfInBounds_toArray, List.set_cons_zero, List.set_cons_succ, List.getElem_toArray, List.getElem_cons_zero, List.getElem_cons_succ]
                refine wpAnyH_take (i := 10) (v := .string (txt bL)) (by rfl) (by kernel_rfl) (by kernel_rfl) (by kernel_rfl) (by exact fun _ _ _ h => h) (Or.inl ⟨by rfl, ?_⟩) hHeld ?_
                · intro w' hSw
                  exact run_txt_op (.tmp 177) rfl a' bL c' rfl hSw.2.1
                try simp only [Act.put, List.setIfInBounds_toArray, List.set_cons_zero, List.set_cons_succ, List.getElem_toArray, List.getElem_cons_zero, List.getElem_cons_succ]
                refine wpAnyH_take (i := 11) (v := ?_) (by rfl) (by kernel_rfl) (by kernel_rfl) (by kernel_rfl) (by exact fun _ _ _ h => h) (Or.inl ⟨by rfl, ?_⟩) hHeld ?_
                rotate_left 1
                · intro w' hSw
                  (try dsimp only at hSw)
                  go_simp
                  try with_reducible rfl
                try simp only [Act.put, List.setIfInBounds_toArray, List.set_cons_zero, List.set_cons_succ, List.getElem_toArray, List.getElem_cons_zero, List.getElem_cons_succ]
                refine wpAnyH_take (i := 12) (v := ?_) (by rfl) (by kernel_rfl) (by kernel_rfl) (by kernel_rfl) (by exact fun _ _ _ h => h) (Or.inl ⟨by rfl, ?_⟩) hHeld ?_
                rotate_left 1
                · intro w' hSw
                  (try dsimp only at hSw)
                  go_simp
                  try with_reducible rfl
                try simp only [Act.put, List.setIfInBounds_toArray, List.set_cons_zero, List.set_cons_succ, List.getElem_toArray, List.getElem_cons_zero, List.getElem_cons_succ]
                refine wpAnyH_take (i := 13) (v := .pointer (some ⟨lg, loff + (l1 + 1), none⟩)) (by rfl) (by kernel_rfl) (by kernel_rfl) (by kernel_rfl) (by exact fun _ _ _ h => h) (Or.inl ⟨by rfl, ?_⟩) hHeld ?_
                · intro w' hSw
                  go_simp
                  intro h
                  exact absurd (h (by omega)) (by omega)
                try simp only [Act.put, List.setIfInBounds_toArray, List.set_cons_zero, List.set_cons_succ, List.getElem_toArray, List.getElem_cons_zero, List.getElem_cons_succ]
                refine wpAnyH_take (i := 14) (v := ?_) (by rfl) (by kernel_rfl) (by kernel_rfl) (by kernel_rfl) (by exact fun _ _ _ h => h) (Or.inl ⟨by rfl, ?_⟩) hHeld ?_
                rotate_left 1
                · intro w' hSw
                  (try dsimp only at hSw)
                  go_simp
                  try with_reducible rfl
                try simp only [Act.put, List.setIfInBounds_toArray, List.set_cons_zero, List.set_cons_succ, List.getElem_toArray, List.getElem_cons_zero, List.getElem_cons_succ]
                refine wpAnyH_take (i := 15) (v := .string (txt bL)) (by rfl) (by kernel_rfl) (by kernel_rfl) (by kernel_rfl) (by exact fun _ _ _ h => h) (Or.inl ⟨by rfl, ?_⟩) hHeld ?_
                · intro w' hSw
                  exact run_txt_op (.tmp 182) rfl rb bL rcb rfl hSw.2.2
                try simp only [Act.put, List.setIfInBounds_toArray, List.set_cons_zero, List.set_cons_succ, List.getElem_toArray, List.getElem_cons_zero, List.getElem_cons_succ]
                refine wpAnyH_take (i := 16) (v := ?_) (by rfl) (by kernel_rfl) (by kernel_rfl) (by kernel_rfl) (by exact fun _ _ _ h => h) (Or.inl ⟨by rfl, ?_⟩) hHeld ?_
                rotate_left 1
                · intro w' hSw
                  (try dsimp only at hSw)
                  go_simp
                  try with_reducible rfl
                try simp only [Act.put, List.setIfInBounds_toArray, List.set_cons_zero, List.set_cons_succ, List.getElem_toArray, List.getElem_cons_zero, List.getElem_cons_succ]
                refine wpAnyH_take (i := 17) (v := ?_) (by rfl) (by kernel_rfl) (by kernel_rfl) (by kernel_rfl) (by exact fun _ _ _ h => h) (Or.inl ⟨by rfl, ?_⟩) hHeld ?_
                rotate_left 1
                · intro w' hSw
                  (try dsimp only at hSw)
                  go_simp
                  try with_reducible rfl
                try simp only [Act.put, List.setIfInBounds_toArray, List.set_cons_zero, List.set_cons_succ, List.getElem_toArray, List.getElem_cons_zero, List.getElem_cons_succ]
                refine wpAnyH_take (i := 18) (v := ?_) (by rfl) (by kernel_rfl) (by kernel_rfl) (by kernel_rfl) (by exact fun _ _ _ h => h) (Or.inl ⟨by rfl, ?_⟩) hHeld ?_
                rotate_left 1
                · intro w' hSw
                  (try dsimp only at hSw)
                  go_simp
                  try with_reducible rfl
                try simp only [Act.put, List.setIfInBounds_toArray, List.set_cons_zero, List.set_cons_succ, List.getElem_toArray, List.getElem_cons_zero, List.getElem_cons_succ]
                refine wpAnyH_done (by kernel_rfl) ?_ _
                clear hHeld
                clear hcL8 hRL8 hbL8 hra8 hrc8 hB8 hB9
                go_wp2_with fail
                refine (last_save HR8.out HCS.out HWI.out (by omega) HN.out.1 HN.out.2 HCB.out.1 HCB.out.2).mono ?_
                rintro e W10 ⟨rfl, v9, D, hr10, htl⟩
                have HLD2 := Lib.hid (Load_any hr10.1 (by have := HN.out; omega) 7)
                rw [htl] at HLD2
                have HR10 := Lib.hid hr10
                clear htl hr10 HR8
                go_wp2_with fail
                refine HLD2.out.mono ?_
                rintro e W11 ⟨a9, l9, c9, ep9, er9, rfl, hb11, hl9, hE9, rfl, hsa9, _⟩
                obtain rfl : l9 = 3 := hl9
                obtain rfl : ep9 = ep + 1 := by rw [hE9]; show ((((l1 + 1) + 1) + 1 : Nat) : Int) = _; have := HEP.out; omega
                have hep3 : 0 ≤ ep := by have := HEP.out; omega
                have hep4 : ep ≤ 100 := by have := HEP.out; omega
                have hr11 := HR10.out.below hb11
                have h11 := (HO3.out.reach hr11).below
                have HSAY : Hid (Says w0 (.returned (.bool true)) W11) := Lib.hid ⟨rfl, h11⟩
                have hB11 : BytesAt W11 a9 [1, 2, 3] := hsa9.1
                clear hE9 hb11 hr11 h11 hsa9 HLD2 HR10
                go_wp2_with (first | (refine wpList_val (.string { data := #[1, 2, 3] }) ((run_txt_op (.tmp 216) (by with_reducible rfl) a9 [1, 2, 3] c9 (by rfl) hB11).trans (by rw [txt123])) (by rfl) ?_))
                go_ret
                exact HSAY.out
            · skip
              have HWI := Lib.hid hW
              have HLD := Lib.hid (Load_any HR7.out.1 (by have := HN.out; omega) 7)
              rw [hW.tells, if_neg (by omega)] at HLD
              clear hW
              go_wp2_with fail
              refine HLD.out.mono ?_
              rintro e W8 ⟨a', l8, c', ep, er, rfl, hb8, hm⟩
              obtain ⟨rfl, hE, rfl, hsa, _⟩ := hm
              have hE0 : ep = ((l1 : Int) + 1 : Int) := by rw [hE]; simp
              have HEP := Lib.hid hE0
              have HE := Lib.hid hE
              have hep1 : (ep == (l1 : Int) + 1) = true := by rw [hE0]; simp
              have hep2 : (ep == (l1 : Int) + 1 + 1) = false := by rw [hE0]; simp; omega
              clear hE hE0
              have hr8 := HR7.out.below hb8
              have hcL8 := hcell.out W8.drew (HO3.out.reach hr8).below.drew (l1 + 1) (by omega)
              have hB8 : BytesAt W8 a' x0 := hsa.1
              have hX8 : BytesAt W8 a x0 := (HR7.out.bytes HBX.out HFX.out).kept hb8
              have hRL8 : BytesAt W8.drew rb bL := HRL.out.2.1.kept (HO3.out.reach hr8).below.drew
              have hbL8 : (xs.getD (l1 + 1) default).bs = bL := HBLE.out
              have hra8 : (xs.getD (l1 + 1) default).a = rb := HRAE.out
              have hrc8 : (xs.getD (l1 + 1) default).c = rcb := HRCE.out
              rw [hbL8, hra8, hrc8] at hcL8
              have hB9 : BytesAt W8.drew a' x0 := hB8
              have HR8 := Lib.hid hr8
              clear hb8 hr8 HLD hsa
              go_wp2_with (first | (refine wpList_val (.string (txt x0)) (run_txt_op (.tmp 162) (by with_reducible rfl) a' x0 c' (by rfl) hB8) (by rfl) ?_) | (refine wpList_val (.string (txt x0)) (run_txt_op (.tmp 164) (by with_reducible rfl) a x0 c (by rfl) hX8) (by rfl) ?_))
              refine wp_region_held_drew (S := (fun _ => True)) (by kernel_rfl) ?_ (fun hHeld => ?_)
              · trivial
              refine wpAnyH_take (i := 0) (v := ?_) (by rfl) (by kernel_rfl) (by kernel_rfl) (by kernel_rfl) (by exact fun _ _ _ h => h) (Or.inl ⟨by rfl, ?_⟩) hHeld ?_
              rotate_left 1
              · intro w' hSw
                (try dsimp only at hSw)
                go_simp
                try with_reducible rfl
              try simp only [Act.put, List.setIfInBounds_toArray, List.set_cons_zero, List.set_cons_succ, List.getElem_toArray, List.getElem_cons_zero, List.getElem_cons_succ]
              refine wpAnyH_take (i := 1) (v := ?_) (by rfl) (by kernel_rfl) (by kernel_rfl) (by kernel_rfl) (by exact fun _ _ _ h => h) (Or.inl ⟨by rfl, ?_⟩) hHeld ?_
              rotate_left 1
              · intro w' hSw
                (try dsimp only at hSw)
                go_simp
                try with_reducible rfl
              try simp only [Act.put, List.setIfInBounds_toArray, List.set_cons_zero, List.set_cons_succ, List.getElem_toArray, List.getElem_cons_zero, List.getElem_cons_succ]
              refine wpAnyH_take (i := 2) (v := ?_) (by rfl) (by kernel_rfl) (by kernel_rfl) (by kernel_rfl) (by exact fun _ _ _ h => h) (Or.inl ⟨by rfl, ?_⟩) hHeld ?_
              rotate_left 1
              · intro w' hSw
                (try dsimp only at hSw)
                go_simp
                try with_reducible rfl
              try simp only [Act.put, List.setIfInBounds_toArray, List.set_cons_zero, List.set_cons_succ, List.getElem_toArray, List.getElem_cons_zero, List.getElem_cons_succ]
              refine wpAnyH_take (i := 3) (v := .bool false) (by rfl) (by kernel_rfl) (by kernel_rfl) (by kernel_rfl) (by exact fun _ _ _ h => h) (Or.inl ⟨by rfl, ?_⟩) hHeld ?_
              · intro w' hSw
                go_simp
                rw [HEP.out, IntWalk.i64_in _ (by omega)]; omega
              try simp only [Act.put, List.setIfInBounds_toArray, List.set_cons_zero, List.set_cons_succ, List.getElem_toArray, List.getElem_cons_zero, List.getElem_cons_succ]
              refine wpAnyH_take (i := 4) (v := ?_) (by rfl) (by kernel_rfl) (by kernel_rfl) (by kernel_rfl) (by exact fun _ _ _ h => h) (Or.inl ⟨by rfl, ?_⟩) hHeld ?_
              rotate_left 1
              · intro w' hSw
                (try dsimp only at hSw)
                go_simp
                try with_reducible rfl
              try simp only [Act.put, List.setIfInBounds_toArray, List.set_cons_zero, List.set_cons_succ, List.getElem_toArray, List.getElem_cons_zero, List.getElem_cons_succ]
              refine wpAnyH_take (i := 5) (v := undef) (by rfl) (by kernel_rfl) (by kernel_rfl) (by kernel_rfl) (by exact fun _ _ _ h => h) (Or.inr ⟨by rfl, rfl⟩) hHeld ?_
              try simp only [Act.put, List.setIfInBounds_toArray, List.set_cons_zero, List.set_cons_succ, List.getElem_toArray, List.getElem_cons_zero, List.getElem_cons_succ]
              refine wpAnyH_take (i := 6) (v := undef) (by rfl) (by kernel_rfl) (by kernel_rfl) (by kernel_rfl) (by exact fun _ _ _ h => h) (Or.inr ⟨by rfl, rfl⟩) hHeld ?_
              try simp only [Act.put, List.setIfInBounds_toArray, List.set_cons_zero, List.set_cons_succ, List.getElem_toArray, List.getElem_cons_zero, List.getElem_cons_succ]
              refine wpAnyH_take (i := 7) (v := ?_) (by rfl) (by kernel_rfl) (by kernel_rfl) (by kernel_rfl) (by exact fun _ _ _ h => h) (Or.inl ⟨by rfl, ?_⟩) hHeld ?_
              rotate_left 1
              · intro w' hSw
                (try dsimp only at hSw)
                go_simp
                try with_reducible rfl
              try simp only [Act.put, List.setIfInBounds_toArray, List.set_cons_zero, List.set_cons_succ, List.getElem_toArray, List.getElem_cons_zero, List.getElem_cons_succ]
              refine wpAnyH_take (i := 8) (v := ?_) (by rfl) (by kernel_rfl) (by kernel_rfl) (by kernel_rfl) (by exact fun _ _ _ h => h) (Or.inl ⟨by rfl, ?_⟩) hHeld ?_
              rotate_left 1
              · intro w' hSw
                (try dsimp only at hSw)
                go_simp
                try with_reducible rfl
              try simp only [Act.put, List.setIfInBounds_toArray, List.set_cons_zero, List.set_cons_succ, List.getElem_toArray, List.getElem_cons_zero, List.getElem_cons_succ]
              refine wpAnyH_take (i := 9) (v := undef) (by rfl) (by kernel_rfl) (by kernel_rfl) (by kernel_rfl) (by exact fun _ _ _ h => h) (Or.inr ⟨by rfl, rfl⟩) hHeld ?_
              try simp only [Act.put, List.setIfInBounds_toArray, List.set_cons_zero, List.set_cons_succ, List.getElem_toArray, List.getElem_cons_zero, List.getElem_cons_succ]
              refine wpAnyH_take (i := 10) (v := undef) (by rfl) (by kernel_rfl) (by kernel_rfl) (by kernel_rfl) (by exact fun _ _ _ h => h) (Or.inr ⟨by rfl, rfl⟩) hHeld ?_
              try simp only [Act.put, List.setIfInBounds_toArray, List.set_cons_zero, List.set_cons_succ, List.getElem_toArray, List.getElem_cons_zero, List.getElem_cons_succ]
              refine wpAnyH_take (i := 11) (v := undef) (by rfl) (by kernel_rfl) (by kernel_rfl) (by kernel_rfl) (by exact fun _ _ _ h => h) (Or.inr ⟨by rfl, rfl⟩) hHeld ?_
              try simp only [Act.put, List.setIfInBounds_toArray, List.set_cons_zero, List.set_cons_succ, List.getElem_toArray, List.getElem_cons_zero, List.getElem_cons_succ]
              refine wpAnyH_take (i := 12) (v := undef) (by rfl) (by kernel_rfl) (by kernel_rfl) (by kernel_rfl) (by exact fun _ _ _ h => h) (Or.inr ⟨by rfl, rfl⟩) hHeld ?_
              try simp only [Act.put, List.setIfInBounds_toArray, List.set_cons_zero, List.set_cons_succ, List.getElem_toArray, List.getElem_cons_zero, List.getElem_cons_succ]
              refine wpAnyH_take (i := 13) (v := undef) (by rfl) (by kernel_rfl) (by kernel_rfl) (by kernel_rfl) (by exact fun _ _ _ h => h) (Or.inr ⟨by rfl, rfl⟩) hHeld ?_
              try simp only [Act.put, List.setIfInBounds_toArray, List.set_cons_zero, List.set_cons_succ, List.getElem_toArray, List.getElem_cons_zero, List.getElem_cons_succ]
              refine wpAnyH_take (i := 14) (v := undef) (by rfl) (by kernel_rfl) (by kernel_rfl) (by kernel_rfl) (by exact fun _ _ _ h => h) (Or.inr ⟨by rfl, rfl⟩) hHeld ?_
              try simp only [Act.put, List.setIfInBounds_toArray, List.set_cons_zero, List.set_cons_succ, List.getElem_toArray, List.getElem_cons_zero, List.getElem_cons_succ]
              refine wpAnyH_take (i := 15) (v := undef) (by rfl) (by kernel_rfl) (by kernel_rfl) (by kernel_rfl) (by exact fun _ _ _ h => h) (Or.inr ⟨by rfl, rfl⟩) hHeld ?_
              try simp only [Act.put, List.setIfInBounds_toArray, List.set_cons_zero, List.set_cons_succ, List.getElem_toArray, List.getElem_cons_zero, List.getElem_cons_succ]
              refine wpAnyH_take (i := 16) (v := undef) (by rfl) (by kernel_rfl) (by kernel_rfl) (by kernel_rfl) (by exact fun _ _ _ h => h) (Or.inr ⟨by rfl, rfl⟩) hHeld ?_
              try simp only [Act.put, List.setIfInBounds_toArray, List.set_cons_zero, List.set_cons_succ, List.getElem_toArray, List.getElem_cons_zero, List.getElem_cons_succ]
              refine wpAnyH_take (i := 17) (v := ?_) (by rfl) (by kernel_rfl) (by kernel_rfl) (by kernel_rfl) (by exact fun _ _ _ h => h) (Or.inl ⟨by rfl, ?_⟩) hHeld ?_
              rotate_left 1
              · intro w' hSw
                (try dsimp only at hSw)
                go_simp
                try with_reducible rfl
              try simp only [Act.put, List.setIfInBounds_toArray, List.set_cons_zero, List.set_cons_succ, List.getElem_toArray, List.getElem_cons_zero, List.getElem_cons_succ]
              refine wpAnyH_take (i := 18) (v := ?_) (by rfl) (by kernel_rfl) (by kernel_rfl) (by kernel_rfl) (by exact fun _ _ _ h => h) (Or.inl ⟨by rfl, ?_⟩) hHeld ?_
              rotate_left 1
              · intro w' hSw
                (try dsimp only at hSw)
                go_simp
                try with_reducible rfl
              try simp only [Act.put, List.setIfInBounds_toArray, List.set_cons_zero, List.set_cons_succ, List.getElem_toArray, List.getElem_cons_zero, List.getElem_cons_succ]
              refine wpAnyH_done (by kernel_rfl) ?_ _
              clear hHeld
              clear hcL8 hRL8 hbL8 hra8 hrc8 hB8 hB9
              go_wp2_with fail
              refine (last_save HR8.out HCS.out HWI.out (by omega) HN.out.1 HN.out.2 HCB.out.1 HCB.out.2).mono ?_
              rintro e W10 ⟨rfl, v9, D, hr10, htl⟩
              have HLD2 := Lib.hid (Load_any hr10.1 (by have := HN.out; omega) 7)
              rw [htl] at HLD2
              have HR10 := Lib.hid hr10
              clear htl hr10 HR8
              go_wp2_with fail
              refine HLD2.out.mono ?_
              rintro e W11 ⟨a9, l9, c9, ep9, er9, rfl, hb11, hl9, hE9, rfl, hsa9, _⟩
              obtain rfl : l9 = 3 := hl9
              obtain rfl : ep9 = ep + 1 := by rw [hE9]; show (((l1 + 1) + 1 : Nat) : Int) = _; have := HEP.out; omega
              have hep3 : 0 ≤ ep := by have := HEP.out; omega
              have hep4 : ep ≤ 100 := by have := HEP.out; omega
              have hr11 := HR10.out.below hb11
              have h11 := (HO3.out.reach hr11).below
              have HSAY : Hid (Says w0 (.returned (.bool true)) W11) := Lib.hid ⟨rfl, h11⟩
              have hB11 : BytesAt W11 a9 [1, 2, 3] := hsa9.1
              clear hE9 hb11 hr11 h11 hsa9 HLD2 HR10
              go_wp2_with (first | (refine wpList_val (.string { data := #[1, 2, 3] }) ((run_txt_op (.tmp 216) (by with_reducible rfl) a9 [1, 2, 3] c9 (by rfl) hB11).trans (by rw [txt123])) (by rfl) ?_))
              go_ret
              exact HSAY.out
end Go.Proofs.Ytienhidbgohhcaa
