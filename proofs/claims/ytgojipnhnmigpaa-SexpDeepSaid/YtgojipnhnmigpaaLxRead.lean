/-
  Layer 7: Read.
-/
import Derived.Test.YtgojipnhnmigpaaLxRow
set_option linter.unusedVariables false
set_option linter.unusedSimpArgs false
namespace Go.Proofs.Ytgojipnhnmigpaa
open Go.RowKit Lx

/-- What a read of a text comes to. -/
def ReadIs (bs : List Int) (w : World) (e : Ending) (w' : World) : Prop :=
  Below w.heap.size w w' ∧ match readP bs with
    | .error p => e = .returned (.tuple #[.slice none 0 0, .agg #[.int .i64 10, .int .i64 (p : Int)]])
    | .ok l => ∃ a c, e = .returned (.tuple #[.slice a l.length c, .agg #[.int .i64 0, .int .i64 0]]) ∧ ToksAt w' a l ∧ l.length ≤ c ∧ c ≤ maxLen ∧ (a = none → c = 0) ∧ ∀ x, a = some x → w.heap.size ≤ x.block ∧ x.spot = none
section
variable {w W W' : World} {a : Option Addr} {c : Nat} {bs : List Int} {i j : Nat} {v : Value} {acc : List Tok} {B : Nat}
theorem zero_fault : (Try.prog.info? 27).map (fun i => (i.zero, i.size)) = some (some (.agg #[.int .i64 0, .int .i64 0]), 2) := by kernel_rfl
theorem size_reader : (Try.prog.info? 58).map (·.size) = some 2 := by kernel_rfl
/-- Within the call: the fault's variable, the reader, the table, the tokens so far. -/
structure ReadSt (w : World) (a : Option Addr) (c : Nat) (bs : List Int) (B : Nat) (W : World) (v : Value) (i : Nat) (acc : List Tok) : Prop where
  rd : RdAt W (w.heap.size + 1) a c bs i
  flt : W.heap[w.heap.size]? = some (.cells #[.int .i64 0, .int .i64 0] 27 (0, 0))
  tab : W.heap[B]? = some (.cells (waysTo (.pointer (some ⟨w.heap.size + 1, 0, none⟩)) 256).toArray 61 (0, 0))
  far : w.heap.size + 1 < B
  row : RowT W (B + 1) v acc
  below : Below w.heap.size w W
  txt : ∀ g off, a = some ⟨g, off, none⟩ → bs ≠ [] → g < w.heap.size
theorem ReadSt.size (h : ReadSt w a c bs B W v i acc) : B + 1 ≤ W.heap.size := (Array.getElem?_eq_some_iff.1 h.tab).1
/-- The reader's own call. -/
theorem ReadSt.move (h : ReadSt w a c bs B W v i acc) (hr : RdAt W' (w.heap.size + 1) a c bs j) (hc : Chg (fun k => k = w.heap.size + 1) W W') : ReadSt w a c bs B W' v j acc := by
  have hs := h.size
  have hf := h.far
  refine ⟨hr, (hc.block _ (by omega) (by omega)).trans h.flt, (hc.block _ (by omega) (by omega)).trans h.tab, h.far, h.row.chg hc (fun k h1 _ e => by omega), ?_, h.txt⟩
  exact h.below.trans (hc.below (fun k hk => by omega) h.below.size)
/-- New memory, or the row's own. -/
theorem ReadSt.grow (h : ReadSt w a c bs B W v i acc) {v2 : Value} {acc2 : List Tok} (hc : Chg (fun k => B + 1 ≤ k) W W') (hr : RowT W' (B + 1) v2 acc2) : ReadSt w a c bs B W' v2 i acc2 := by
  have hs := h.size
  have hf := h.far
  refine ⟨h.rd.chg hc (by omega) (fun g off e hn => by have := h.txt g off e hn; omega), (hc.block _ (by omega) (by omega)).trans h.flt, (hc.block _ (by omega) (by omega)).trans h.tab, h.far, hr, ?_, h.txt⟩
  exact h.below.trans (hc.below (fun k hk => by omega) h.below.size)
theorem ReadSt.alloc (h : ReadSt w a c bs B W v i acc) (ob : Obj) : ReadSt w a c bs B (W.alloc ob) v i acc :=
  h.grow (chg_alloc _ _) (h.row.chg (S := fun _ => False) (chg_alloc _ _) (fun _ _ _ h => h))
/-- What stands in the table. -/
theorem ReadSt.way (h : ReadSt w a c bs B W v i acc) {x : Nat} (hx : x < 256) : W.cell? ⟨B, x, none⟩ = some (wayAt (.pointer (some ⟨w.heap.size + 1, 0, none⟩)) x) := by
  have hb := h.tab
  simp only [World.cell?, hb]
  have := waysTo_at (.pointer (some ⟨w.heap.size + 1, 0, none⟩)) 256 x hx
  rw [if_pos hx] at this
  simpa using this
/-- The fault's variable is filled. -/
theorem ReadSt.ends (h : ReadSt w a c bs B W v i acc) (x y : Int) : W.there w.heap.size 0 (#[Value.int .i64 x, .int .i64 y] : Array Value).size ∧ Below w.heap.size w (W.setCells w.heap.size 0 [.int .i64 x, .int .i64 y]) ∧
    (loadVar 27 ⟨w.heap.size, 0, none⟩).run Try.prog (W.setCells w.heap.size 0 [.int .i64 x, .int .i64 y]) = .ok (.agg #[.int .i64 x, .int .i64 y]) (W.setCells w.heap.size 0 [.int .i64 x, .int .i64 y]) ∧
    RowT (W.setCells w.heap.size 0 [.int .i64 x, .int .i64 y]) (B + 1) v acc := by
  have hth : W.there w.heap.size 0 2 := fun j hj => by
    have := h.flt
    simp [World.cell?, World.frozen?, this]
    omega
  have q : Chg (fun k => k = w.heap.size) W (W.setCells w.heap.size 0 [.int .i64 x, .int .i64 y]) := chg_setCells (S := fun k => k = w.heap.size) rfl _ _ _
  have hf := h.far
  refine ⟨hth, h.below.trans (q.below (fun k hk => by omega) h.below.size), load_fault (World.rangeAt_setCells_same _ _ _ _ hth), h.row.chg q (fun k h1 _ e => by omega)⟩
theorem size_flt (x y : Int) : (Try.prog.info? 27).map (·.size) = some (#[Value.int .i64 x, .int .i64 y] : Array Value).size := size_fault
theorem all_flt (x y : Int) : (#[Value.int .i64 x, .int .i64 y] : Array Value).all (·.oneCell') = true := by simp [Value.oneCell']
theorem read_bad {p : Nat} (hsay : readP bs = rdP bs i acc) (hi : i < bs.length) (ht : tokP bs i = .bad p) : readP bs = .error p := by rw [hsay, rd_bad hi ht]
theorem run_equalIn_nil (d : Nat) (w : World) : (Op.equalIn (d + 1) 60 .nilFunc .nilFunc).run Try.prog w = .ok true w := by
  simp [Op.equalIn, run_underlying Try.underlying60]
theorem run_equalIn_fn (d : Nat) (w : World) (fn : Fn) (fi ca : Array Value) : (Op.equalIn (d + 1) 60 (.func fn fi ca) .nilFunc).run Try.prog w = .ok false w := by
  simp [Op.equalIn, run_underlying Try.underlying60]
theorem run_eql_nil (w : World) : (binOp .eql 60 .nilFunc .nilFunc).run Try.prog w = .ok (.bool true) w := by
  simp only [binOp]
  simp [Op.equal, Op.maxDepth, run_equalIn_nil]
theorem run_eql_fn (w : World) (fn : Fn) (fi ca : Array Value) : (binOp .eql 60 (.func fn fi ca) .nilFunc).run Try.prog w = .ok (.bool false) w := by
  simp only [binOp]
  simp [Op.equal, Op.maxDepth, run_equalIn_fn]
/-- The beginning. -/
theorem read_start (hb : BytesAt w a bs) (ok : TextOk a bs c) {w1 : World} (hbl : Below ((w.alloc (.cells #[.int .i64 0, .int .i64 0] 27)).alloc (.cells #[.slice a bs.length c, .int .i64 0] 58)).heap.size ((w.alloc (.cells #[.int .i64 0, .int .i64 0] 27)).alloc (.cells #[.slice a bs.length c, .int .i64 0] 58)) w1) :
    ReadSt w a c bs w1.heap.size (w1.alloc (.cells (waysTo (.pointer (some ⟨w.heap.size + 1, 0, none⟩)) 256).toArray 61)) (.slice none 0 0) 0 [] := by
  have hs := hbl.size
  simp at hs
  have b0 : Below w.heap.size w ((w.alloc (.cells #[.int .i64 0, .int .i64 0] 27)).alloc (.cells #[.slice a bs.length c, .int .i64 0] 58)) := ((Below.refl _ _).alloc (Nat.le_refl _) _).alloc (by simp) _
  have b1 := b0.trans (hbl.mono b0.size)
  have b2 : Below w.heap.size w (w1.alloc (.cells (waysTo (.pointer (some ⟨w.heap.size + 1, 0, none⟩)) 256).toArray 61)) := b1.alloc b1.size _
  have h1 : w1.heap[w.heap.size]? = some (.cells #[.int .i64 0, .int .i64 0] 27 (0, 0)) := by
    rw [hbl.block _ (by simp; omega), Below.heap_alloc _ _ _ (by simp)]
    exact heap_alloc_last _ _
  have h2 : w1.heap[w.heap.size + 1]? = some (.cells #[.slice a bs.length c, .int .i64 0] 58 (0, 0)) := by
    rw [hbl.block _ (by simp)]
    have := heap_alloc_last (w.alloc (.cells #[.int .i64 0, .int .i64 0] 27)) (.cells #[.slice a bs.length c, .int .i64 0] 58)
    simpa using this
  refine ⟨⟨?_, hb.kept b2, Nat.zero_le _, ok⟩, ?_, heap_alloc_last _ _, by omega, RowT.nil _ _, b2, fun g off e hn => by rw [e] at hb; exact hb.lt hn⟩
  · rw [Below.heap_alloc _ _ _ (by omega)]
    exact h2
  · rw [Below.heap_alloc _ _ _ (by omega)]
    exact h1
set_option maxRecDepth 100000 in
set_option maxHeartbeats 8000000 in
theorem Read_any (hb : BytesAt w a bs) (ok : TextOk a bs c) : Calls Try.prog 11 #[.slice a bs.length c] w (ReadIs bs w) := by
  have zs := fun w => (zero_of_info zero_ways).1 w
  obtain ⟨Z, hZ⟩ : ∃ Z, List.replicate 256 Value.nilFunc = Z := ⟨_, rfl⟩
  have hZl : Z.length = 256 := by rw [← hZ]; simp
  rw [hZ] at zs
  have HWY := Lib.hid (fun W => ways_any W (w.heap.size + 1))
  have HST := Lib.hid (fun w1 => read_start (w1 := w1) hb ok)
  have hTl : (waysTo (.pointer (some ⟨w.heap.size + 1, 0, none⟩)) 256).length = 256 := waysTo_len _ _
  have h1 := ways_one (.pointer (some ⟨w.heap.size + 1, 0, none⟩)) 256
  obtain ⟨T, hT⟩ : ∃ T, waysTo (.pointer (some ⟨w.heap.size + 1, 0, none⟩)) 256 = T := ⟨_, rfl⟩
  rw [hT] at HWY HST h1 hTl
  have hszT : (Try.prog.info? 61).map (·.size) = some T.toArray.size := by rw [List.size_toArray, hTl]; exact size_ways
  have hallT : T.toArray.all (·.oneCell') = true := all_oneCell_toArray h1
  have HTZ := Lib.hid (And.intro hZl hTl)
  have HOK := Lib.hid ok
  clear hZ hZl hTl hT h1 hb ok
  go_enter Try.func11, Try.ntmps11
  go_wp2_with fail
  refine (HWY.out _).mono ?_
  rintro e w1 ⟨rfl, hb1⟩
  have H1 := Lib.hid (HST.out w1 hb1)
  clear hb1 HST HWY
  go_wp2_with (first | (with_reducible refine wpList_alloc_agg rfl 61 rfl Z.toArray zs ?_) | (with_reducible refine wpList_store_new rfl 61 (.tmp 5) (.tmp 15) rfl w1 Z.toArray T.toArray rfl rfl rfl hszT (by rw [List.size_toArray, List.size_toArray, HTZ.out.1, HTZ.out.2]) hallT ?_))
  have HSK := Lib.hid (skip_any H1.out.rd)
  refine HSK.out.mono ?_
  rintro e w2 ⟨rfl, hm2⟩
  have H2 := Lib.hid (H1.out.move hm2.1 hm2.2)
  clear hm2 HSK zs hszT hallT
  generalize w1.heap.size = B at *
  go_wp2_with fail
  go_loopw [6] (fun (v : Value) (wr : World) => ∃ i acc, readP bs = rdP bs i acc ∧ acc.length ≤ i ∧ Hid (ReadSt w a c bs B wr v i acc)) (fun _ wr => bs.length - posOf wr (w.heap.size + 1))
  case atStart => exact ⟨_, _, rfl, by simp, H2⟩
  case round =>
    obtain ⟨i, acc, hsay, hfew, HK⟩ := hrel
    have HSAY := Lib.hid hsay
    have HFEW := Lib.hid hfew
    clear H1 H2 hsay hfew
    have HPOS := Lib.hid HK.out.rd.pos
    obtain ⟨c0, c1, f⟩ := HK.out.rd.cells
    have hsm := HOK.out.small
    have hle := HK.out.rd.le
    by_cases hi : i < bs.length
    · obtain ⟨g, off, rfl, hcell, hx0, hx1⟩ := HK.out.rd.at hi
      have hwy := way_any (x := .pointer (some ⟨w.heap.size + 1, 0, none⟩)) (R := w.heap.size + 1) (a := some ⟨g, off, none⟩) (c := c) (i := i) hi hx0
      have hxn : (bs.getD i 0).toNat < 256 := by omega
      have htab := HK.out.way hxn
      obtain ⟨y, hy⟩ : ∃ y, (bs.getD i 0).toNat = y := ⟨_, rfl⟩
      have hyc : (y : Int) = bs.getD i 0 := by omega
      rw [hy] at hwy htab hxn
      rw [← hyc] at hcell
      have hy0 : (y : Int) < 256 := by omega
      obtain ⟨L, hL⟩ : ∃ L, bs.length = L := ⟨_, rfl⟩
      have HI := Lib.hid hi
      have HL := Lib.hid hL
      have hiL : (i : Int) < (L : Int) := by omega
      have hLs : (L : Int) ≤ 100000 := by omega
      rw [hL] at c0
      clear hx0 hx1 hy hyc hL hle hsm hi
      obtain ⟨F, hF⟩ : ∃ F, wayAt (.pointer (some ⟨w.heap.size + 1, 0, none⟩)) y = F := ⟨_, rfl⟩
      rw [hF] at hwy htab
      clear hF
      rcases hwy with ⟨rfl, hnil⟩ | ⟨fid, rfl, hent, hcall⟩
      · have hbad := read_bad HSAY.out HI.out hnil
        have HBAD := Lib.hid hbad
        have heq := run_eql_nil wr
        clear hnil hbad
        have HWR := Lib.hid (wrong_any HK.out.rd)
        go_wp2_with fail
        refine HWR.out.mono ?_
        rintro e w8 ⟨rfl, hb8⟩
        have hg8 := HK.out.grow (W' := w8) (.of_below hb8) (HK.out.row.chg (S := fun _ => False) (.of_below hb8) (fun _ _ _ h => h))
        have HE := Lib.hid (hg8.ends 10 (i : Int))
        have hth := HE.out.1
        have hsz := size_flt 10 (i : Int)
        have hall := all_flt 10 (i : Int)
        clear hb8 hg8 HWR
        go_wp2_with (with_reducible refine wpList_store_mid rfl 27 (.tmp 3) (.tmp 40) rfl w.heap.size 0 (#[Value.int .i64 10, .int .i64 (i : Int)] : Array Value) rfl rfl hth hsz hall ?_)
        refine bodyPost_ret (v := .tuple #[.slice none 0 0, .agg #[.int .i64 10, .int .i64 (i : Int)]]) ?_ rfl (by unfold ReadIs; rw [HBAD.out]; exact ⟨HE.out.2.1, rfl⟩)
        have := HE.out.2.2.1
        simp [results, Try.results11, asAddr, Act.put, this]
      · have HENT := Lib.hid hent
        have HCALL := Lib.hid hcall
        clear hent hcall
        unfold fv at htab
        have heq := run_eql_fn wr (.func fid) #[.pointer (some ⟨w.heap.size + 1, 0, none⟩)] #[]
        cases hr : tokP bs i with
        | bad p =>
          rw [hr] at HCALL
          have hbad := read_bad HSAY.out HI.out hr
          have HBAD := Lib.hid hbad
          clear hbad hr
          go_wp2_with fail
          rw [HENT.out, Oper.upon_enter]
          refine (HCALL.out _ HK.out.rd).mono ?_
          rintro e w3 ⟨⟨k3, t3, rfl⟩, hR, hQ⟩
          have H3 := Lib.hid ((HK.out.move hR hQ).alloc (.cells #[.int .i64 k3, .string t3, .int .i64 0] 35))
          clear hR hQ HCALL HENT
          have HWR := Lib.hid (wrong_any H3.out.rd)
          go_wp2_with fail
          refine HWR.out.mono ?_
          rintro e w8 ⟨rfl, hb8⟩
          have hg8 := H3.out.grow (W' := w8) (.of_below hb8) (H3.out.row.chg (S := fun _ => False) (.of_below hb8) (fun _ _ _ h => h))
          have HE := Lib.hid (hg8.ends 10 (p : Int))
          have hth := HE.out.1
          have hsz := size_flt 10 (p : Int)
          have hall := all_flt 10 (p : Int)
          clear hb8 hg8 HWR
          go_wp2_with (with_reducible refine wpList_store_mid rfl 27 (.tmp 3) (.tmp 49) rfl w.heap.size 0 (#[Value.int .i64 10, .int .i64 (p : Int)] : Array Value) rfl rfl hth hsz hall ?_)
          refine bodyPost_ret (v := .tuple #[.slice none 0 0, .agg #[.int .i64 10, .int .i64 (p : Int)]]) ?_ rfl (by unfold ReadIs; rw [HBAD.out]; exact ⟨HE.out.2.1, rfl⟩)
          have := HE.out.2.2.1
          simp [results, Try.results11, asAddr, Act.put, this]
        | tok k t e =>
          rw [hr] at HCALL
          have hfit := tok_fits HI.out
          rw [hr] at hfit
          have hsay := HSAY.out
          rw [rd_tok HI.out hr] at hsay
          have HNX := Lib.hid (And.intro hsay hfit)
          clear hfit hsay hr
          go_wp2_with fail
          rw [HENT.out, Oper.upon_enter]
          refine (HCALL.out _ HK.out.rd).mono ?_
          rintro e1 w3 ⟨rfl, hR, hQ⟩
          have H3 := Lib.hid (HK.out.move hR hQ)
          clear hR hQ HCALL HENT
          have h5 := (H3.out.alloc (.cells #[.int .i64 k, .string (txt t), .int .i64 (i : Int)] 35)).alloc (.cells #[.int .i64 k, .string (txt t), .int .i64 (i : Int)] 35)
          have hcl5 : ∀ j u, (tcell ⟨k, t, i⟩)[j]? = some u → ((w3.alloc (.cells #[.int .i64 k, .string (txt t), .int .i64 (i : Int)] 35)).alloc (.cells #[.int .i64 k, .string (txt t), .int .i64 (i : Int)] 35)).cell? ((⟨w3.heap.size + 1, 0, none⟩ : Addr).add j) = some u := by
            intro j u hu
            rw [Addr.add_mid]
            have := rangeAt_new (w3.alloc (.cells #[.int .i64 k, .string (txt t), .int .i64 (i : Int)] 35)) (tcell ⟨k, t, i⟩) 35 j u hu
            simpa [tcell, tk3] using this
          have hln5 : acc.length + 1 ≤ 1000000 := by have := HFEW.out; have := HI.out; have := HL.out; omega
          have hsz5 := h5.size
          have H5 := Lib.hid (And.intro h5 (And.intro hcl5 (And.intro hln5 hsz5)))
          clear h5 hcl5 hln5 hsz5
          go_wp2_with (refine wpList_appT rfl (.tmp 52) (.tmp 54) rfl (B + 1) _ acc rfl H5.out.1.row ⟨w3.heap.size + 1, 0, none⟩ 1 ⟨k, t, i⟩ rfl H5.out.2.1 H5.out.2.2.1 H5.out.2.2.2 ?_; intro v6 w6 hv6 hg6; have H6 := Lib.hid (H5.out.1.grow (H5.out.1.row.grown_chg hg6) hv6); clear hv6 hg6)
          have HSK := Lib.hid (skip_any H6.out.rd)
          refine HSK.out.mono ?_
          rintro e7 w7 ⟨rfl, hm7⟩
          have H7 := Lib.hid (H6.out.move hm7.1 hm7.2)
          clear hm7 HSK
          go_wp2_with fail
          go_roundw
          case rel => exact ⟨_, _, HNX.out.1, by have := HFEW.out; have := HNX.out.2.1; have : e ≤ skipP bs e := skip_ge; simp; omega, H7⟩
          case measure =>
            have e1 := H7.out.rd.pos
            have e2 := HPOS.out
            have e3 := HNX.out.2
            have e4 : e ≤ skipP bs e := skip_ge
            obtain ⟨e5, e6⟩ := e3
            rw [e1, e2]
            omega
    · have hend : readP bs = .ok acc := by rw [HSAY.out]; exact rd_end (by omega)
      have HEND := Lib.hid hend
      have HE := Lib.hid (HK.out.ends 0 0)
      have hth := HE.out.1
      have hsz := size_flt 0 0
      have hall := all_flt 0 0
      clear hend hle
      go_wp2_with (with_reducible refine wpList_store_mid rfl 27 (.tmp 3) (.tmp 57) rfl w.heap.size 0 (#[Value.int .i64 0, .int .i64 0] : Array Value) rfl rfl hth hsz hall ?_)
      obtain ⟨a2, c2, hv, ht2, hl2, hcm2, hn2, hx2⟩ := HE.out.2.2.2.value
      subst hv
      refine bodyPost_ret (v := .tuple #[.slice a2 acc.length c2, .agg #[.int .i64 0, .int .i64 0]]) ?_ rfl (by
        unfold ReadIs
        rw [HEND.out]
        exact ⟨HE.out.2.1, a2, c2, rfl, ht2, hl2, hcm2, hn2, fun x h => ⟨by have := (hx2 x h).1; have := HK.out.far; omega, (hx2 x h).2⟩⟩)
      have := HE.out.2.2.1
      simp [results, Try.results11, asAddr, Act.put, this]
end
end Go.Proofs.Ytgojipnhnmigpaa

