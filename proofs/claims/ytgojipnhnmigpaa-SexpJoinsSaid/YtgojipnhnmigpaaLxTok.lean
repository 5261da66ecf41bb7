/-
  Layer 7: how a token is read: a parenthesis, a symbol, one between two |, a keyword, a number, a string.
-/
import Derived.Test.YtgojipnhnmigpaaLxSkip
set_option linter.unusedVariables false
set_option linter.unusedSimpArgs false
namespace Go.Proofs.Ytgojipnhnmigpaa
open Go.RowKit Lx

/-- A text of bytes. -/
def txt (bs : List Int) : ByteArray := bs.foldl (fun r n => r.push (UInt8.ofNat n.toNat)) ByteArray.empty
theorem txt_nil : txt [] = { data := #[] } := rfl
theorem txt_size (bs : List Int) : (txt bs).size = bs.length := by
  have h : ∀ (bs : List Int) (r : ByteArray), (bs.foldl (fun r n => r.push (UInt8.ofNat n.toNat)) r).size = r.size + bs.length := by
    intro bs
    induction bs with
    | nil => intro r; rfl
    | cons x l ih => intro r; rw [List.foldl_cons, ih, ByteArray.size_push]; simp; omega
  rw [txt, h]
  simp
theorem run_txt (w : World) (a : Option Addr) (bs : List Int) (c : Nat) (hb : BytesAt w a bs) : (convert 43 9 (.slice a bs.length c)).run Try.prog w = .ok (.string (txt bs)) w := by
  have h1 : (Conv.bytesToString (.slice a bs.length c)).run Try.prog w = .ok (.string (txt bs)) w := by
    rcases hb with rfl | ⟨g, off, rfl, hr⟩
    · cases a with
      | none => simp [Conv.bytesToString, Sem.run_pure, txt]
      | some ad =>
        refine run_bytesToString w ad 0 c [] ?_
        exact run_loadCells_list (P := Try.prog) w ad [] (by simp)
    · refine run_bytesToString w ⟨g, off, none⟩ bs.length c bs ?_
      have := run_loadCells_list (P := Try.prog) w ⟨g, off, none⟩ (bys bs) (fun j v hv => by rw [Addr.add_mid]; exact hr j v hv)
      rw [bys_len] at this
      exact this
  exact (run_convert_bytes_string (P := Try.prog) w 43 9 5 a bs.length c Try.underlying43 Try.underlying5 Try.underlying9).trans h1
theorem run_txt_op {o : Oper} {aa : Act} {w : World} (x : Operand) (ho : o.op = .convert 43 9 x) (a : Option Addr) (bs : List Int) (c : Nat) (hx : aa.eval x = .slice a bs.length c) (hb : BytesAt w a bs) :
    (execOp aa.eval o).run Try.prog w = .ok (.value (.string (txt bs))) w := by
  have h2 := run_txt w a bs c hb
  unfold execOp
  simp only [ho, hx, Sem.run_bind, h2, Result.andThen_ok, Sem.run_pure]
section
variable {w W W' : World} {R : Nat} {a : Option Addr} {c : Nat} {bs : List Int} {i j : Nat}
/-- Three cells of a token. -/
def tk3 (k : Int) (t : ByteArray) (p : Int) : List Value := [.int .i64 k, .string t, .int .i64 p]
def zTok : List Value := tk3 0 { data := #[] } 0
theorem RdAt.chg {S : Nat → Prop} (h : RdAt W R a c bs i) (hc : Chg S W W') (hR : ¬ S R) (ht : ∀ g off, a = some ⟨g, off, none⟩ → bs ≠ [] → ¬ S g) : RdAt W' R a c bs i :=
  ⟨(hc.block R h.lt hR).trans h.head, h.text.chg hc ht, h.le, h.ok⟩
/-- Within a call that began at w: the reader, and the call's own variable. -/
structure TkAt (w : World) (R : Nat) (a : Option Addr) (c : Nat) (bs : List Int) (W : World) (i : Nat) : Prop where
  rd : RdAt W R a c bs i
  chg : Chg (fun k => k = R) w W
  own : W.heap[w.heap.size]? = some (.cells zTok.toArray 35 (0, 0))
  old : R < w.heap.size
  txt : ∀ g off, a = some ⟨g, off, none⟩ → bs ≠ [] → g < w.heap.size
theorem TkAt.start (h : RdAt w R a c bs i) : TkAt w R a c bs (w.alloc (.cells zTok.toArray 35)) i :=
  ⟨h.kept ((Below.refl _ _).alloc (Nat.le_refl _) _), chg_alloc _ _, heap_alloc_last _ _, h.lt, fun g off e hn => by
    have := h.text
    rw [e] at this
    exact this.lt hn⟩
theorem TkAt.next (h : TkAt w R a c bs W i) (hr : RdAt W' R a c bs j) (hc : Chg (fun k => k = R) W W') : TkAt w R a c bs W' j :=
  ⟨hr, h.chg.step hc, (hc.block _ (by have := (Array.getElem?_eq_some_iff.1 h.own).1; exact this) (by have := h.old; omega)).trans h.own, h.old, h.txt⟩
theorem TkAt.ends (h : TkAt w R a c bs W i) (k : Int) (t : ByteArray) (p : Int) :
    W.there w.heap.size 0 (tk3 k t p).toArray.size ∧ RdAt (W.setCells w.heap.size 0 (tk3 k t p)) R a c bs i ∧ Chg (fun k => k = R) w (W.setCells w.heap.size 0 (tk3 k t p)) ∧
      (loadVar 35 ⟨w.heap.size, 0, none⟩).run Try.prog (W.setCells w.heap.size 0 (tk3 k t p)) = .ok (.agg #[.int .i64 k, .string t, .int .i64 p]) (W.setCells w.heap.size 0 (tk3 k t p)) := by
  have hth : W.there w.heap.size 0 3 := fun j hj => by
    have := h.own
    simp [World.cell?, World.frozen?, this, zTok, tk3]
    omega
  have q : Chg (fun k => k = w.heap.size) W (W.setCells w.heap.size 0 (tk3 k t p)) := chg_setCells (S := fun k => k = w.heap.size) rfl _ _ _
  refine ⟨hth, h.rd.chg q (by have := h.old; omega) (fun g off e hn => by have := h.txt g off e hn; omega), h.chg.trans (q.mono fun j _ e => .inr (by omega)), ?_⟩
  exact load_token (World.rangeAt_setCells_same _ _ _ _ hth)
/-- What the call that reads a token answers. -/
def Gives (w : World) (R : Nat) (a : Option Addr) (c : Nat) (bs : List Int) : Res → Ending → World → Prop
  | .bad p, e, w' => (∃ k t, e = .returned (.tuple #[.agg #[.int .i64 k, .string t, .int .i64 0], .bool false])) ∧ RdAt w' R a c bs p ∧ Chg (fun k => k = R) w w'
  | .tok k t p, e, w' => e = .returned (.tuple #[.agg #[.int .i64 k, .string (txt t), .int .i64 0], .bool true]) ∧ RdAt w' R a c bs p ∧ Chg (fun k => k = R) w w'
theorem size_tk (k : Int) (t : ByteArray) (p : Int) : (Try.prog.info? 35).map (·.size) = some (tk3 k t p).toArray.size := size_token
theorem all_tk (k : Int) (t : ByteArray) (p : Int) : (tk3 k t p).toArray.all (·.oneCell') = true := by simp [tk3, Value.oneCell']
set_option maxRecDepth 100000 in
set_option maxHeartbeats 2000000 in
theorem symbol_any (h : RdAt w R a c bs i) : Calls Try.prog 33 #[.pointer (some ⟨R, 0, none⟩)] w (Gives w R a c bs (.tok 3 (seg bs i (run innerB bs i)) (run innerB bs i))) := by
  have H0 := Lib.hid (TkAt.start h)
  have hp1 := fun (W : World) (h : RdAt W R a c bs (i)) => pass_any h asks_inner
  unfold Passed at hp1
  clear h
  unfold Gives
  generalize Lx.seg bs (i) (run innerB bs (i)) = S at *
  generalize run innerB bs (i) = j at *
  have HP := Lib.hid hp1
  clear hp1
  go_enter Try.func33, Try.ntmps33
  go_wp2_with fail
  refine (HP.out _ H0.out.rd).mono ?_
  rintro e w1 ⟨a1, c1, rfl, hb, hc, hR, hQ⟩
  have H1 := Lib.hid (H0.out.next hR hQ)
  have hcv := run_txt w1 a1 S c1 hb
  clear hb hc hR hQ
  have HE := Lib.hid (H1.out.ends 3 (txt S) 0)
  have hth := HE.out.1
  have hsz := size_tk 3 (txt S) 0
  have hall := all_tk 3 (txt S) 0
  go_wp2_with (with_reducible refine wpList_store_mid rfl 35 (.tmp 2) (.tmp 7) rfl w.heap.size 0 (tk3 3 (txt S) 0).toArray rfl rfl hth hsz hall ?_)
  refine bodyPost_ret (v := .tuple #[.agg #[.int .i64 3, .string (txt S), .int .i64 0], .bool true]) ?_ rfl ⟨rfl, HE.out.2.1, HE.out.2.2.1⟩
  have := HE.out.2.2.2
  simp [results, Try.results33, asAddr, Act.put, this]
set_option maxRecDepth 100000 in
set_option maxHeartbeats 2000000 in
theorem open_any (h : RdAt w R a c bs i) (hx : bs[i]? = some 40) : Calls Try.prog 29 #[.pointer (some ⟨R, 0, none⟩)] w (Gives w R a c bs (.tok 1 [40] (i + 1))) := by
  have H0 := Lib.hid (TkAt.start h)
  have HT := Lib.hid (take_yes H0.out.rd hx)
  clear h hx
  unfold Gives
  go_enter Try.func29, Try.ntmps29
  go_wp2_with fail
  refine HT.out.mono ?_
  rintro e w1 ⟨rfl, hR, hQ⟩
  have H1 := Lib.hid (H0.out.next hR hQ)
  clear hR hQ
  have HE := Lib.hid (H1.out.ends 1 (txt [40]) 0)
  have hth := HE.out.1
  have hsz := size_tk 1 (txt [40]) 0
  have hall := all_tk 1 (txt [40]) 0
  have e40 : txt [40] = { data := #[40] } := rfl
  rw [e40] at hth hsz hall HE
  go_wp2_with (with_reducible refine wpList_store_mid rfl 35 (.tmp 2) (.tmp 6) rfl w.heap.size 0 (tk3 1 { data := #[40] } 0).toArray rfl rfl hth hsz hall ?_)
  refine bodyPost_ret (v := .tuple #[.agg #[.int .i64 1, .string { data := #[40] }, .int .i64 0], .bool true]) ?_ rfl ⟨rfl, HE.out.2.1, HE.out.2.2.1⟩
  have := HE.out.2.2.2
  simp [results, Try.results29, asAddr, Act.put, this]
set_option maxRecDepth 100000 in
set_option maxHeartbeats 2000000 in
theorem close_any (h : RdAt w R a c bs i) (hx : bs[i]? = some 41) : Calls Try.prog 29 #[.pointer (some ⟨R, 0, none⟩)] w (Gives w R a c bs (.tok 2 [41] (i + 1))) := by
  have H0 := Lib.hid (TkAt.start h)
  have HN := Lib.hid (take_no H0.out.rd (x := 40) (by rw [hx]; simp))
  have HT := Lib.hid (fun (W : World) (h : RdAt W R a c bs i) => take_yes h hx)
  clear h hx
  unfold Gives
  go_enter Try.func29, Try.ntmps29
  go_wp2_with fail
  refine HN.out.mono ?_
  rintro e w1 ⟨rfl, hR, hQ⟩
  have H1 := Lib.hid (H0.out.next hR hQ)
  clear hR hQ
  go_wp2_with fail
  refine (HT.out _ H1.out.rd).mono ?_
  rintro e w2 ⟨rfl, hR, hQ⟩
  have H2 := Lib.hid (H1.out.next hR hQ)
  clear hR hQ
  have HE := Lib.hid (H2.out.ends 2 (txt [41]) 0)
  have hth := HE.out.1
  have hsz := size_tk 2 (txt [41]) 0
  have hall := all_tk 2 (txt [41]) 0
  have e41 : txt [41] = { data := #[41] } := rfl
  rw [e41] at hth hsz hall HE
  go_wp2_with (with_reducible refine wpList_store_mid rfl 35 (.tmp 2) (.tmp 7) rfl w.heap.size 0 (tk3 2 { data := #[41] } 0).toArray rfl rfl hth hsz hall ?_)
  refine bodyPost_ret (v := .tuple #[.agg #[.int .i64 2, .string { data := #[41] }, .int .i64 0], .bool true]) ?_ rfl ⟨rfl, HE.out.2.1, HE.out.2.2.1⟩
  have := HE.out.2.2.2
  simp [results, Try.results29, asAddr, Act.put, this]
set_option maxRecDepth 100000 in
set_option maxHeartbeats 2000000 in
theorem quoted_yes (h : RdAt w R a c bs i) (hx : bs[i]? = some 124) (he : bs[run quotedB bs (i + 1)]? = some 124) : Calls Try.prog 30 #[.pointer (some ⟨R, 0, none⟩)] w (Gives w R a c bs (.tok 3 (seg bs (i + 1) (run quotedB bs (i + 1))) (run quotedB bs (i + 1) + 1))) := by
  have H0 := Lib.hid (TkAt.start h)
  have hp1 := fun (W : World) (h : RdAt W R a c bs (i + 1)) => pass_any h asks_quoted
  unfold Passed at hp1
  have HT := Lib.hid (take_yes H0.out.rd hx)
  have hq := fun (W : World) (h : RdAt W R a c bs (run quotedB bs (i + 1))) => take_yes h he
  clear h hx he
  unfold Gives
  generalize Lx.seg bs (i + 1) (run quotedB bs (i + 1)) = S at *
  generalize run quotedB bs (i + 1) = j at *
  have HP := Lib.hid hp1
  have HQ := Lib.hid hq
  clear hp1 hq
  go_enter Try.func30, Try.ntmps30
  go_wp2_with fail
  refine HT.out.mono ?_
  rintro e w1 ⟨rfl, hR, hQ⟩
  have H1 := Lib.hid (H0.out.next hR hQ)
  clear hR hQ
  go_wp2_with fail
  refine (HP.out _ H1.out.rd).mono ?_
  rintro e w2 ⟨a1, c1, rfl, hb, hc, hR, hQ⟩
  have H2 := Lib.hid (H1.out.next hR hQ)
  have hcv := run_txt w2 a1 S c1 hb
  clear hb hc hR hQ
  go_wp2_with fail
  refine (HQ.out _ H2.out.rd).mono ?_
  rintro e w3 ⟨rfl, hR, hQ⟩
  have H3 := Lib.hid (H2.out.next hR hQ)
  clear hR hQ hcv
  have HE := Lib.hid (H3.out.ends 3 (txt S) 0)
  have hth := HE.out.1
  have hsz := size_tk 3 (txt S) 0
  have hall := all_tk 3 (txt S) 0
  go_wp2_with (with_reducible refine wpList_store_mid rfl 35 (.tmp 2) (.tmp 11) rfl w.heap.size 0 (tk3 3 (txt S) 0).toArray rfl rfl hth hsz hall ?_)
  refine bodyPost_ret (v := .tuple #[.agg #[.int .i64 3, .string (txt S), .int .i64 0], .bool true]) ?_ rfl ⟨rfl, HE.out.2.1, HE.out.2.2.1⟩
  have := HE.out.2.2.2
  simp [results, Try.results30, asAddr, Act.put, this]
set_option maxRecDepth 100000 in
set_option maxHeartbeats 2000000 in
theorem quoted_no (h : RdAt w R a c bs i) (hx : bs[i]? = some 124) (he : bs[run quotedB bs (i + 1)]? ≠ some 124) : Calls Try.prog 30 #[.pointer (some ⟨R, 0, none⟩)] w (Gives w R a c bs (.bad (run quotedB bs (i + 1)))) := by
  have H0 := Lib.hid (TkAt.start h)
  have hp1 := fun (W : World) (h : RdAt W R a c bs (i + 1)) => pass_any h asks_quoted
  unfold Passed at hp1
  have HT := Lib.hid (take_yes H0.out.rd hx)
  have hq := fun (W : World) (h : RdAt W R a c bs (run quotedB bs (i + 1))) => take_no h he
  clear h hx he
  unfold Gives
  generalize Lx.seg bs (i + 1) (run quotedB bs (i + 1)) = S at *
  generalize run quotedB bs (i + 1) = j at *
  have HP := Lib.hid hp1
  have HQ := Lib.hid hq
  clear hp1 hq
  go_enter Try.func30, Try.ntmps30
  go_wp2_with fail
  refine HT.out.mono ?_
  rintro e w1 ⟨rfl, hR, hQ⟩
  have H1 := Lib.hid (H0.out.next hR hQ)
  clear hR hQ
  go_wp2_with fail
  refine (HP.out _ H1.out.rd).mono ?_
  rintro e w2 ⟨a1, c1, rfl, hb, hc, hR, hQ⟩
  have H2 := Lib.hid (H1.out.next hR hQ)
  have hcv := run_txt w2 a1 S c1 hb
  clear hb hc hR hQ
  go_wp2_with fail
  refine (HQ.out _ H2.out.rd).mono ?_
  rintro e w3 ⟨rfl, hR, hQ⟩
  have H3 := Lib.hid (H2.out.next hR hQ)
  clear hR hQ hcv
  have HE := Lib.hid (H3.out.ends 3 (txt S) 0)
  have hth := HE.out.1
  have hsz := size_tk 3 (txt S) 0
  have hall := all_tk 3 (txt S) 0
  go_wp2_with (with_reducible refine wpList_store_mid rfl 35 (.tmp 2) (.tmp 11) rfl w.heap.size 0 (tk3 3 (txt S) 0).toArray rfl rfl hth hsz hall ?_)
  refine bodyPost_ret (v := .tuple #[.agg #[.int .i64 3, .string (txt S), .int .i64 0], .bool false]) ?_ rfl ⟨⟨_, _, rfl⟩, HE.out.2.1, HE.out.2.2.1⟩
  have := HE.out.2.2.2
  simp [results, Try.results30, asAddr, Act.put, this]
set_option maxRecDepth 100000 in
set_option maxHeartbeats 2000000 in
theorem keyword_yes (h : RdAt w R a c bs i) (hx : bs[i]? = some 58) (he : run innerB bs (i + 1) ≠ i + 1) : Calls Try.prog 31 #[.pointer (some ⟨R, 0, none⟩)] w (Gives w R a c bs (.tok 6 (seg bs (i + 1) (run innerB bs (i + 1))) (run innerB bs (i + 1)))) := by
  have H0 := Lib.hid (TkAt.start h)
  have hp1 := fun (W : World) (h : RdAt W R a c bs (i + 1)) => pass_any h asks_inner
  unfold Passed at hp1
  have HT := Lib.hid (take_yes H0.out.rd hx)
  have hf : ¬ (txt (Lx.seg bs (i + 1) (run innerB bs (i + 1)))).toList = [] := by
    have h1 : i + 1 ≤ run innerB bs (i + 1) := run_ge
    have h2 : run innerB bs (i + 1) ≤ bs.length := run_le (at_lt hx)
    have h3 : (Lx.seg bs (i + 1) (run innerB bs (i + 1))).length = run innerB bs (i + 1) - (i + 1) := seg_length h2
    intro e
    have := congrArg List.length e
    rw [ByteArray.toList_eq, Array.length_toList] at this
    have e2 := txt_size (Lx.seg bs (i + 1) (run innerB bs (i + 1)))
    rw [h3] at e2
    have e3 : ∀ x : ByteArray, x.size = x.data.size := fun _ => rfl
    rw [e3] at e2
    simp at this
    rw [this] at e2
    simp at e2
    omega
  clear h hx he
  unfold Gives
  generalize Lx.seg bs (i + 1) (run innerB bs (i + 1)) = S at *
  generalize run innerB bs (i + 1) = j at *
  have HP := Lib.hid hp1
  have HF := Lib.hid hf
  clear hp1 hf
  go_enter Try.func31, Try.ntmps31
  go_wp2_with fail
  refine HT.out.mono ?_
  rintro e w1 ⟨rfl, hR, hQ⟩
  have H1 := Lib.hid (H0.out.next hR hQ)
  clear hR hQ
  go_wp2_with fail
  refine (HP.out _ H1.out.rd).mono ?_
  rintro e w2 ⟨a1, c1, rfl, hb, hc, hR, hQ⟩
  have H2 := Lib.hid (H1.out.next hR hQ)
  have hcv := run_txt w2 a1 S c1 hb
  clear hb hc hR hQ
  have hne := HF.out
  have HE := Lib.hid (H2.out.ends 6 (txt S) 0)
  have hth := HE.out.1
  have hsz := size_tk 6 (txt S) 0
  have hall := all_tk 6 (txt S) 0
  go_wp2_with (with_reducible refine wpList_store_mid rfl 35 (.tmp 2) (.tmp 11) rfl w.heap.size 0 (tk3 6 (txt S) 0).toArray rfl rfl hth hsz hall ?_)
  refine bodyPost_ret (v := .tuple #[.agg #[.int .i64 6, .string (txt S), .int .i64 0], .bool true]) ?_ rfl ⟨rfl, HE.out.2.1, HE.out.2.2.1⟩
  have := HE.out.2.2.2
  simp [results, Try.results31, asAddr, Act.put, this, hne]
set_option maxRecDepth 100000 in
set_option maxHeartbeats 2000000 in
theorem keyword_no (h : RdAt w R a c bs i) (hx : bs[i]? = some 58) (he : run innerB bs (i + 1) = i + 1) : Calls Try.prog 31 #[.pointer (some ⟨R, 0, none⟩)] w (Gives w R a c bs (.bad (i + 1))) := by
  have H0 := Lib.hid (TkAt.start h)
  have hp1 := fun (W : World) (h : RdAt W R a c bs (i + 1)) => pass_any h asks_inner
  unfold Passed at hp1
  have HT := Lib.hid (take_yes H0.out.rd hx)
  have hf : Lx.seg bs (i + 1) (run innerB bs (i + 1)) = [] ∧ run innerB bs (i + 1) = i + 1 := ⟨by rw [he]; exact seg_self, he⟩
  clear h hx he
  unfold Gives
  generalize Lx.seg bs (i + 1) (run innerB bs (i + 1)) = S at *
  generalize run innerB bs (i + 1) = j at *
  have HP := Lib.hid hp1
  have HF := Lib.hid hf
  clear hp1 hf
  go_enter Try.func31, Try.ntmps31
  go_wp2_with fail
  refine HT.out.mono ?_
  rintro e w1 ⟨rfl, hR, hQ⟩
  have H1 := Lib.hid (H0.out.next hR hQ)
  clear hR hQ
  go_wp2_with fail
  refine (HP.out _ H1.out.rd).mono ?_
  rintro e w2 ⟨a1, c1, rfl, hb, hc, hR, hQ⟩
  have H2 := Lib.hid (H1.out.next hR hQ)
  have hcv := run_txt w2 a1 S c1 hb
  clear hb hc hR hQ
  obtain ⟨rfl, rfl⟩ := HF.out
  rw [txt_nil, List.length_nil] at hcv
  have hne : (ByteArray.mk #[]).toList = [] := by rw [ByteArray.toList_eq]
  have HE := Lib.hid (H2.out.ends 6 { data := #[] } 0)
  have hth := HE.out.1
  have hsz := size_tk 6 { data := #[] } 0
  have hall := all_tk 6 { data := #[] } 0
  go_wp2_with (with_reducible refine wpList_store_mid rfl 35 (.tmp 2) (.tmp 11) rfl w.heap.size 0 (tk3 6 { data := #[] } 0).toArray rfl rfl hth hsz hall ?_)
  refine bodyPost_ret (v := .tuple #[.agg #[.int .i64 6, .string { data := #[] }, .int .i64 0], .bool false]) ?_ rfl ⟨⟨_, _, rfl⟩, HE.out.2.1, HE.out.2.2.1⟩
  have := HE.out.2.2.2
  simp [results, Try.results31, asAddr, Act.put, this, hne]
end
end Go.Proofs.Ytgojipnhnmigpaa

