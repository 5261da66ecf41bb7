/-
  Layer 6: a header as it stands on a disk.
-/
import Derived.Test.YtienhidbgohhcaaSnPut
import Derived.Test.YtienhidbgohhcaaDkSpk
import Derived.Deep.RegionHeld3
import Derived.Lib.LazyBuf
set_option linter.unusedVariables false
set_option linter.unusedSimpArgs false
namespace Go.Proofs.Ytienhidbgohhcaa
open Go.RowKit

/-- A header's sector. -/
def hdrL (e sz f s : Nat) : List Int := [83, 84, 89, 49, 1] ++ (be 8 e ++ (be 8 sz ++ (be 4 f ++ (be 4 s ++ (List.replicate 27 0 ++ be 8 e)))))
theorem hdrL_len (e sz f s : Nat) : (hdrL e sz f s).length = 64 := by simp [hdrL, be_len]
theorem app_splice (a b c x : List Int) (h : x.length = b.length) : splice (a ++ (b ++ c)) a.length x = a ++ (x ++ c) := by
  simp [splice, h]
theorem hdr_splice (e sz f s : Nat) : splice (splice (splice (splice (splice ([83, 84, 89, 49, 1] ++ List.replicate 59 0) 5 (be 8 e)) 13 (be 8 sz)) 21 (be 4 f)) 25 (be 4 s)) 56 (be 8 e) = hdrL e sz f s := by
  have e8 := be_len 8 e
  have s8 := be_len 8 sz
  have f4 := be_len 4 f
  have s4 := be_len 4 s
  have h0 : ([83, 84, 89, 49, 1] ++ List.replicate 59 0 : List Int) = [83, 84, 89, 49, 1] ++ (List.replicate 8 0 ++ List.replicate 51 0) := rfl
  rw [h0, show splice ([83, 84, 89, 49, 1] ++ (List.replicate 8 0 ++ List.replicate 51 0)) 5 (be 8 e) = [83, 84, 89, 49, 1] ++ (be 8 e ++ List.replicate 51 0) from app_splice _ _ _ _ (by simp [e8])]
  have h1 : ([83, 84, 89, 49, 1] ++ (be 8 e ++ List.replicate 51 0) : List Int) = ([83, 84, 89, 49, 1] ++ be 8 e) ++ (List.replicate 8 0 ++ List.replicate 43 0) := by rw [List.append_assoc]; rfl
  rw [h1, show 13 = ([83, 84, 89, 49, 1] ++ be 8 e : List Int).length by simp [e8], app_splice _ _ _ _ (by simp [s8])]
  have h2 : ([83, 84, 89, 49, 1] ++ be 8 e ++ (be 8 sz ++ List.replicate 43 0) : List Int) = ([83, 84, 89, 49, 1] ++ be 8 e ++ be 8 sz) ++ (List.replicate 4 0 ++ List.replicate 39 0) := by simp only [List.append_assoc]; rfl
  rw [h2, show 21 = ([83, 84, 89, 49, 1] ++ be 8 e ++ be 8 sz : List Int).length by simp [e8, s8], app_splice _ _ _ _ (by simp [f4])]
  have h3 : ([83, 84, 89, 49, 1] ++ be 8 e ++ be 8 sz ++ (be 4 f ++ List.replicate 39 0) : List Int) = ([83, 84, 89, 49, 1] ++ be 8 e ++ be 8 sz ++ be 4 f) ++ (List.replicate 4 0 ++ (List.replicate 27 0 ++ (List.replicate 8 0 ++ []))) := by simp only [List.append_assoc]; rfl
  rw [h3, show 25 = ([83, 84, 89, 49, 1] ++ be 8 e ++ be 8 sz ++ be 4 f : List Int).length by simp [e8, s8, f4], app_splice _ _ _ _ (by simp [s4])]
  have h4 : ([83, 84, 89, 49, 1] ++ be 8 e ++ be 8 sz ++ be 4 f ++ (be 4 s ++ (List.replicate 27 0 ++ (List.replicate 8 0 ++ []))) : List Int) = ([83, 84, 89, 49, 1] ++ be 8 e ++ be 8 sz ++ be 4 f ++ be 4 s ++ List.replicate 27 0) ++ (List.replicate 8 0 ++ []) := by simp only [List.append_assoc]
  rw [h4, show 56 = ([83, 84, 89, 49, 1] ++ be 8 e ++ be 8 sz ++ be 4 f ++ be 4 s ++ List.replicate 27 0 : List Int).length by simp [e8, s8, f4, s4], app_splice _ _ _ _ (by simp [e8])]
  simp [hdrL]
/-- The three blocks of the call. -/
structure HdAt (w : World) (H : List Value) (L : List Int) (W : World) : Prop where
  h : W.heap[w.heap.size]? = some (.cells H.toArray 52 (0, 0))
  z : W.heap[w.heap.size + 1]? = some (.cells (bys zer).toArray 57 (0, 0))
  l : W.heap[w.heap.size + 1 + 1]? = some (.cells (bys L).toArray 57 (0, 0))
  b : Below w.heap.size w W
  n : L.length = 64
theorem bys_splice' (a b : List Int) (o : Nat) : splice (bys a) o (bys b) = bys (splice a o b) := by simp [bys, splice, List.map_append, List.map_take, List.map_drop]
theorem HdAt.put {w W : World} {H : List Value} {L : List Int} (h : HdAt w H L W) {off k n : Nat} (hk : k ≤ 8) (ho : off + k ≤ 64) (hn : n < 18446744073709551616) (c : Nat) :
    Calls Try.prog 34 #[.slice (some ⟨w.heap.size + 1 + 1, off, none⟩) k c, .int .u64 (n : Int)] W fun e W' => e = .returned (.tuple #[]) ∧ HdAt w H (splice L off (be k n)) W' := by
  refine (put_any h.l (by rw [bys_len, h.n]; exact ho) hk hn).mono ?_
  rintro e W' ⟨rfl, h1, h2⟩
  have hs : w.heap.size + 1 + 1 < W.heap.size := (Array.getElem?_eq_some_iff.1 h.l).1
  refine ⟨rfl, (h2.block _ (by omega) (by omega)).trans h.h, (h2.block _ (by omega) (by omega)).trans h.z, by rw [h1, bys_splice'], h.b.trans (h2.below (fun k hk => by omega) h.b.size), ?_⟩
  rw [length_splice _ _ _ (by rw [be_len, h.n]; exact ho)]
  exact h.n
theorem HdAt.sets {w W : World} {H : List Value} {L X : List Int} {o : Nat} (h : HdAt w H L W) (ho : o + X.length ≤ 64) : HdAt w H (splice L o X) (W.setCells (w.heap.size + 1 + 1) o (bys X)) := by
  have hs : w.heap.size + 1 + 1 < W.heap.size := (Array.getElem?_eq_some_iff.1 h.l).1
  have h2 : Chg (fun j => j = w.heap.size + 1 + 1) W (W.setCells (w.heap.size + 1 + 1) o (bys X)) := chg_setCells (S := fun j => j = w.heap.size + 1 + 1) rfl _ _ _
  refine ⟨(h2.block _ (by omega) (by omega)).trans h.h, (h2.block _ (by omega) (by omega)).trans h.z, ?_, h.b.trans (h2.below (fun k hk => by omega) h.b.size), ?_⟩
  · rw [heap_setCells_same _ _ _ _ _ _ h.l (by rw [bys_len, bys_len, h.n]; exact ho), bys_splice']
  · rw [length_splice _ _ _ (by rw [h.n]; exact ho)]
    exact h.n
theorem HdAt.drew {w W : World} {H : List Value} {L : List Int} (h : HdAt w H L W) : HdAt w H L W.drew := ⟨h.h, h.z, h.l, h.b.drew, h.n⟩
theorem HdAt.cells {w W : World} {a b c d : Value} {L : List Int} (h : HdAt w [a, b, c, d] L W) : W.cell? ⟨w.heap.size, 0, none⟩ = some a ∧ W.cell? ⟨w.heap.size, 1, none⟩ = some b ∧ W.cell? ⟨w.heap.size, 2, none⟩ = some c ∧ W.cell? ⟨w.heap.size, 3, none⟩ = some d := by
  simp [World.cell?, h.h]
/-- An operation whose run is known, in a plain region. -/
theorem wpList_run {P : Program} {ops : Array Oper} {Q : Exit → Act → World → Prop} {a : Act} {w w' : World} {rest : List Oper} {o : Oper} (v : Value) (hr : (execOp a.eval o).run P w = .ok (.value v) w') (hw : Region.wanted o (yielded ops a.tmps) = true)
    (h : wpList P ops Q rest (a.put o.dst v) w') : wpList P ops Q (o :: rest) a w :=
  wpList_step fun K hK => by
    rw [if_pos hw]
    unfold Oper.wp
    rw [hr]
    exact hK _ _ h
def hdr1 : List Int := [83, 84, 89, 49, 1] ++ List.replicate 59 0
theorem run_mark_op {o : Oper} {a : Act} {w : World} (x : Operand) (ho : o.op = .call { callee := .builtin .copy, args := #[x, .const (.string { data := #[83, 84, 89, 49] })], argTypes := #[29, 9] }) (b c : Nat)
    (hx : a.eval x = .slice (some ⟨b, 0, none⟩) 64 c) (hb : w.there b 0 4) : (execOp a.eval o).run Try.prog w = .ok (.value (goInt 4)) (w.setCells b 0 (bys [83, 84, 89, 49])) := by
  have h : (Builtin.copy_ #[29, 9] o.type #[.slice (some ⟨b, 0, none⟩) 64 c, .string { data := #[83, 84, 89, 49] }]).run Try.prog w = .ok (goInt 4) (w.setCells b 0 (bys [83, 84, 89, 49])) :=
    run_copy_string (P := Try.prog) w 29 9 o.type 5 b 0 64 c { data := #[83, 84, 89, 49] } Try.underlying29 (fun w => size_of size_byte w) (by decide) (fun j hj => (hb j hj).1) (fun j hj => (hb j hj).2)
  have hc : a.eval (.const (.string { data := #[83, 84, 89, 49] })) = .string { data := #[83, 84, 89, 49] } := rfl
  unfold execOp
  simp only [ho, resolve, invoke, builtin, Sem.run_bind, Sem.run_pure, Result.andThen_ok, List.map_toArray, List.map_cons, List.map_nil, hx, hc, h]
set_option maxRecDepth 100000 in
set_option maxHeartbeats 2000000 in
theorem sector_any (w : World) (e sz f s : Nat) (he : e < 18446744073709551616) (hsz : sz < 18446744073709551616) (hf : f < 4294967296) (hs : s < 4294967296) :
    Calls Try.prog 23 #[.agg #[.int .u64 (e : Int), .int .u64 (sz : Int), .int .u32 (f : Int), .int .u32 (s : Int)]] w fun en w' => en = .returned (.agg (bys (hdrL e sz f s)).toArray) ∧ Below w.heap.size w w' := by
  have zs := fun w => (zero_of_info zero_sector).1 w
  obtain ⟨Z, hZ⟩ : ∃ Z, bys (List.replicate 64 0) = Z := ⟨_, rfl⟩
  rw [hZ] at zs
  have hze : bys zer = Z := hZ
  obtain ⟨H, hH⟩ : ∃ H, H = [Value.int .u64 (e : Int), .int .u64 (sz : Int), .int .u32 (f : Int), .int .u32 (s : Int)] := ⟨_, rfl⟩
  obtain ⟨W0, hW0⟩ : ∃ W0, W0 = ((w.alloc (.cells #[Value.int .u64 (e : Int), .int .u64 (sz : Int), .int .u32 (f : Int), .int .u32 (s : Int)] 52)).alloc (.cells Z.toArray 57)).alloc (.cells Z.toArray 57) := ⟨_, rfl⟩
  have hd0 : HdAt w H zer W0 := by
    refine ⟨?_, ?_, ?_, ?_, zer_len⟩
    · rw [hW0, Below.heap_alloc _ _ _ (by simp; omega), Below.heap_alloc _ _ _ (by simp), hH]
      exact heap_alloc_last w _
    · rw [hW0, Below.heap_alloc _ _ _ (by simp), hze]
      have := heap_alloc_last (w.alloc (.cells #[Value.int .u64 (e : Int), .int .u64 (sz : Int), .int .u32 (f : Int), .int .u32 (s : Int)] 52)) (.cells Z.toArray 57)
      simpa using this
    · rw [hW0, hze]
      have := heap_alloc_last ((w.alloc (.cells #[Value.int .u64 (e : Int), .int .u64 (sz : Int), .int .u32 (f : Int), .int .u32 (s : Int)] 52)).alloc (.cells Z.toArray 57)) (.cells Z.toArray 57)
      simpa using this
    · rw [hW0]
      exact (((Below.refl _ _).alloc (Nat.le_refl _) _).alloc (by simp) _).alloc (by simp; omega) _
  have hd1 := hd0.sets (X := [83, 84, 89, 49]) (o := 0) (by decide)
  have hd2 := hd1.sets (X := [1]) (o := 4) (by decide)
  have hth : W0.there (w.heap.size + 1 + 1) 0 4 := there_blk hd0.l 0 4 (by rw [bys_len, zer_len]; omega)
  obtain ⟨u, hc4⟩ := cell_blk hd1.l (o := 4) (by rw [bys_len, hd1.n]; omega)
  have hf4 : (W0.setCells (w.heap.size + 1 + 1) 0 (bys [83, 84, 89, 49])).frozen? ⟨w.heap.size + 1 + 1, 4, none⟩ = false := by simp [World.frozen?, hd1.l]
  rw [show splice (splice zer 0 [83, 84, 89, 49]) 4 [1] = hdr1 from by decide] at hd2
  obtain ⟨W1, hW1⟩ : ∃ W1, W1 = (W0.setCells (w.heap.size + 1 + 1) 0 (bys [83, 84, 89, 49])).setCell ⟨w.heap.size + 1 + 1, 4, none⟩ (.int .u8 1) := ⟨_, rfl⟩
  have hd2' : HdAt w H hdr1 W1 := by rw [hW1]; exact hd2
  have HW0 := Lib.hid hW0
  have HW1 := Lib.hid hW1
  have HD := Lib.hid hd2'
  have hmk := fun o a (x : Operand) ho hx => run_mark_op (o := o) (a := a) (w := W0) x ho (w.heap.size + 1 + 1) 64 hx hth
  have HMK := Lib.hid hmk
  clear hW0 hW1 hd0 hd1 hd2 hd2' hZ hze hmk hth
  go_enter Try.func23, Try.ntmps23
  go_wp2_with (first | (with_reducible refine wpList_alloc_agg rfl 57 rfl Z.toArray zs ?_) | (rw [← HW0.out]; refine wpList_run (goInt 4) (HMK.out _ _ (.tmp 4) (by with_reducible rfl) (by rfl)) (by rfl) ?_))
  rw [← HW1.out]
  have HCC : Hid (∀ L W, HdAt w H L W → W.cell? ⟨w.heap.size, 0, none⟩ = some (.int .u64 (e : Int)) ∧ W.cell? ⟨w.heap.size, 1, none⟩ = some (.int .u64 (sz : Int)) ∧ W.cell? ⟨w.heap.size, 2, none⟩ = some (.int .u32 (f : Int)) ∧ W.cell? ⟨w.heap.size, 3, none⟩ = some (.int .u32 (s : Int))) := Lib.hid fun L W h => by
    rw [hH] at h
    exact h.cells
  clear HMK HW0 HW1 hc4 hf4 hH
  have hwf : IntKind.u64.wrap (f : Int) = (f : Int) := IntWalk.u64_in _ (by omega)
  have hws : IntKind.u64.wrap (s : Int) = (s : Int) := IntWalk.u64_in _ (by omega)
  have HP0 := Lib.hid (HD.out.drew.put (off := 5) (k := 8) (n := e) (by omega) (by omega) (by omega) 59)
  have c0 := (HCC.out _ _ HD.out.drew).1
  go_region_held3 (fun w' => w'.cell? ⟨w.heap.size, 0, none⟩ = some (.int .u64 (e : Int))) (first | exact c0 | exact k0 | go_keep)
    (first
      | (go_at_call 34; (with_reducible refine HP0.out.mono ?_); rintro en W2 ⟨rfl, hd0⟩; have k0 := (HCC.out _ _ hd0).1))
  have HD0 := Lib.hid hd0
  clear HD HP0 hd0 c0 k0
  go_wp2_with fail
  have HP1 := Lib.hid (HD0.out.drew.put (off := 13) (k := 8) (n := sz) (by omega) (by omega) (by omega) 51)
  have c1 := (HCC.out _ _ HD0.out.drew).2.1
  go_region_held3 (fun w' => w'.cell? ⟨w.heap.size, 1, none⟩ = some (.int .u64 (sz : Int))) (first | exact c1 | exact k1 | go_keep)
    (first
      | (go_at_call 34; (with_reducible refine HP1.out.mono ?_); rintro en W3 ⟨rfl, hd1⟩; have k1 := (HCC.out _ _ hd1).2.1))
  have HD1 := Lib.hid hd1
  clear HD0 HP1 hd1 c1 k1
  go_wp2_with fail
  have HP2 := Lib.hid (HD1.out.drew.put (off := 21) (k := 4) (n := f) (by omega) (by omega) (by omega) 43)
  have c2 := (HCC.out _ _ HD1.out.drew).2.2.1
  go_region_held3 (fun w' => w'.cell? ⟨w.heap.size, 2, none⟩ = some (.int .u32 (f : Int))) (first | exact c2 | exact k2 | go_keep)
    (first
      | (go_at_call 34; (with_reducible refine HP2.out.mono ?_); rintro en W4 ⟨rfl, hd2⟩; have k2 := (HCC.out _ _ hd2).2.2.1))
  have HD2 := Lib.hid hd2
  clear HD1 HP2 hd2 c2 k2
  go_wp2_with fail
  have HP3 := Lib.hid (HD2.out.drew.put (off := 25) (k := 4) (n := s) (by omega) (by omega) (by omega) 39)
  have c3 := (HCC.out _ _ HD2.out.drew).2.2.2
  go_region_held3 (fun w' => w'.cell? ⟨w.heap.size, 3, none⟩ = some (.int .u32 (s : Int))) (first | exact c3 | exact k3 | go_keep)
    (first
      | (go_at_call 34; (with_reducible refine HP3.out.mono ?_); rintro en W5 ⟨rfl, hd3⟩; have k3 := (HCC.out _ _ hd3).2.2.2))
  have HD3 := Lib.hid hd3
  clear HD2 HP3 hd3 c3 k3
  go_wp2_with fail
  have HP4 := Lib.hid (HD3.out.drew.put (off := 56) (k := 8) (n := e) (by omega) (by omega) (by omega) 8)
  have c4 := (HCC.out _ _ HD3.out.drew).1
  go_region_held3 (fun w' => w'.cell? ⟨w.heap.size, 0, none⟩ = some (.int .u64 (e : Int))) (first | exact c4 | exact k4 | go_keep)
    (first
      | (go_at_call 34; (with_reducible refine HP4.out.mono ?_); rintro en W6 ⟨rfl, hd4⟩; have k4 := (HCC.out _ _ hd4).1))
  have HD4 := Lib.hid hd4
  clear HD3 HP4 hd4 c4 k4
  have hL : splice (splice (splice (splice (splice hdr1 5 (be 8 e)) 13 (be 8 sz)) 21 (be 4 f)) 25 (be 4 s)) 56 (be 8 e) = hdrL e sz f s := hdr_splice e sz f s
  rw [hL] at HD4
  have hl64 := hdrL_len e sz f s
  obtain ⟨L, hLe⟩ : ∃ L, hdrL e sz f s = L := ⟨_, rfl⟩
  rw [hLe] at HD4 hl64
  have HLE := Lib.hid hLe
  obtain ⟨h1, h2, h3, h4, h5⟩ := HD4.out
  have r1 : W6.rangeAt (w.heap.size + 1 + 1) 0 (bys L) := by
    have := rangeAt_blk h3 0 64
    rwa [List.drop_zero, List.take_of_length_le (by rw [bys_len, h5]; exact Nat.le_refl _)] at this
  have hth : W6.there (w.heap.size + 1) 0 (bys L).toArray.size := there_blk h2 0 _ (by simp [bys_len, zer_len, h5])
  have hsz : (Try.prog.info? 57).map (·.size) = some (bys L).length := by rw [bys_len, h5]; exact size_sector
  have hall : (bys L).toArray.all (·.oneCell') = true := all_oneCell_toArray (bys_one L)
  have HLD := Lib.hid (run_loadVar_mid (P := Try.prog) (W6.setCells (w.heap.size + 1) 0 (bys L)) (w.heap.size + 1) 0 57 (bys L) _ (World.rangeAt_setCells_same _ _ _ _ (by simpa using hth)) Try.underlying57 rfl hsz)
  have HB : Hid (Below w.heap.size w (W6.setCells (w.heap.size + 1) 0 (bys L))) := Lib.hid (h4.trans ((chg_setCells (S := fun j => j = w.heap.size + 1) rfl _ _ _).below (fun k hk => by omega) h4.size))
  clear h1 h2 h3 h4 HD4 HCC hL hLe hl64 zs
  go_wp2_with (first | (with_reducible refine wpList_load_mid rfl 57 (.tmp 3) rfl (w.heap.size + 1 + 1) 0 rfl (bys L) _ r1 Try.underlying57 rfl hsz ?_) | (with_reducible refine wpList_store_mid rfl 57 (.tmp 2) (.tmp 29) rfl (w.heap.size + 1) 0 (bys L).toArray rfl rfl hth (by rw [List.size_toArray]; exact hsz) hall ?_))
  refine bodyPost_ret (v := .agg (bys L).toArray) ?_ rfl ⟨by rw [HLE.out], HB.out⟩
  have := HLD.out
  simp [results, Try.results23, asAddr, Act.put, this]
end Go.Proofs.Ytienhidbgohhcaa
