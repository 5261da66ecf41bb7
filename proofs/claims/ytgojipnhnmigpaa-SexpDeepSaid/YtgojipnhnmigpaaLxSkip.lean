/-
  Layer 7: a reader goes past blanks (skip); the fault where it stands (wrong).
-/
import Derived.Test.YtgojipnhnmigpaaLxRd
set_option linter.unusedVariables false
set_option linter.unusedSimpArgs false
namespace Go.Proofs.Ytgojipnhnmigpaa
open Go.RowKit Lx

theorem enters_blank (args : Array Value) (w : World) : (callFunc 38 args).run Try.prog w = .ok (.enter 38 args) w := by
  have := Try.func38
  go_simp
theorem asks_blank : Asks 38 blankB := ⟨enters_blank, fun w x h0 h1 => isBlank_any w x⟩
theorem enters_line (args : Array Value) (w : World) : (callFunc 40 args).run Try.prog w = .ok (.enter 40 args) w := by
  have := Try.func40
  go_simp
theorem asks_line : Asks 40 lineB := ⟨enters_line, fun w x h0 h1 => isOfLine_any w x⟩
theorem enters_digit (args : Array Value) (w : World) : (callFunc 35 args).run Try.prog w = .ok (.enter 35 args) w := by
  have := Try.func35
  go_simp
theorem asks_digit : Asks 35 digitB := ⟨enters_digit, fun w x h0 h1 => isDigit_any w x⟩
theorem enters_inner (args : Array Value) (w : World) : (callFunc 36 args).run Try.prog w = .ok (.enter 36 args) w := by
  have := Try.func36
  go_simp
theorem asks_inner : Asks 36 innerB := ⟨enters_inner, fun w x h0 h1 => isOfSymbol_any w x h0 h1⟩
theorem enters_quoted (args : Array Value) (w : World) : (callFunc 42 args).run Try.prog w = .ok (.enter 42 args) w := by
  have := Try.func42
  go_simp
theorem asks_quoted : Asks 42 quotedB := ⟨enters_quoted, fun w x h0 h1 => isOfQuoted_any w x⟩
theorem enters_literal (args : Array Value) (w : World) : (callFunc 43 args).run Try.prog w = .ok (.enter 43 args) w := by
  have := Try.func43
  go_simp
theorem asks_literal : Asks 43 literalB := ⟨enters_literal, fun w x h0 h1 => isOfLiteral_any w x⟩
theorem size_fault : (Try.prog.info? 27).map (·.size) = some 2 := by kernel_rfl
theorem size_token : (Try.prog.info? 35).map (·.size) = some 3 := by kernel_rfl
theorem rangeAt_new (w : World) (L : List Value) (t : TypeId) : (w.alloc (.cells L.toArray t)).rangeAt w.heap.size 0 L := fun j u hu => by
  rw [Nat.zero_add, World.cell?_alloc_new]
  simpa using hu
/-- What a variable of one's own holds, handed back. -/
theorem load_fault {w : World} {b : Nat} {x y : Value} (h : w.rangeAt b 0 [x, y]) : (loadVar 27 ⟨b, 0, none⟩).run Try.prog w = .ok (.agg #[x, y]) w :=
  run_loadVar_mid (P := Try.prog) w b 0 27 [x, y] _ h Try.underlying27 rfl (by rw [size_fault]; rfl)
theorem load_token {w : World} {b : Nat} {x y z : Value} (h : w.rangeAt b 0 [x, y, z]) : (loadVar 35 ⟨b, 0, none⟩).run Try.prog w = .ok (.agg #[x, y, z]) w :=
  run_loadVar_mid (P := Try.prog) w b 0 35 [x, y, z] _ h Try.underlying35 rfl (by rw [size_token]; rfl)
section
variable {w : World} {R : Nat} {a : Option Addr} {c : Nat} {bs : List Int} {i : Nat}
/-- Behind a call that moves the reader up to a place. -/
def Moved (w : World) (R : Nat) (a : Option Addr) (c : Nat) (bs : List Int) (j : Nat) (w' : World) : Prop := RdAt w' R a c bs j ∧ Chg (fun k => k = R) w w'
set_option maxRecDepth 100000 in
set_option maxHeartbeats 2000000 in
theorem skip_any (h : RdAt w R a c bs i) : Calls Try.prog 21 #[.pointer (some ⟨R, 0, none⟩)] w fun e w' => e = .returned (.tuple #[]) ∧ Moved w R a c bs (skipP bs i) w' := by
  have HPB := Lib.hid (fun (W : World) (k : Nat) (h : RdAt W R a c bs k) => pass_any h asks_blank)
  have HPL := Lib.hid (fun (W : World) (k : Nat) (h : RdAt W R a c bs k) => pass_any h asks_line)
  have H0 := Lib.hid h
  have hg := skip_pass bs i
  have hr : run blankB bs (run blankB bs i) = run blankB bs i := run_run
  have HG := Lib.hid (And.intro hg hr)
  clear h hg hr
  go_enter Try.func21, Try.ntmps21
  go_wp2_with fail
  refine (HPB.out _ _ H0.out).mono ?_
  rintro e w1 ⟨a1, c1, rfl, hb1, hc1, hR1, hQ1⟩
  have H1 := Lib.hid (And.intro hR1 hQ1)
  clear hb1 hc1 hR1 hQ1
  go_wp2_with fail
  go_loopw [] (fun (wr : World) => ∃ k : Nat, skipP bs k = skipP bs i ∧ run blankB bs k = k ∧ Hid (RdAt wr R a c bs k ∧ Chg (fun k => k = R) w wr)) (fun wr => bs.length - posOf wr R)
  case atStart => exact ⟨_, HG.out.1.symm, HG.out.2, H1⟩
  case round =>
    obtain ⟨k, hk, hrb, HK⟩ := hrel
    clear H1
    by_cases hx : bs[k]? = some 59
    · have HT := Lib.hid (take_yes HK.out.1 hx)
      have hkl := at_lt hx
      have h1 : k + 1 ≤ run lineB bs (k + 1) := run_ge
      have h2 : run lineB bs (k + 1) ≤ run blankB bs (run lineB bs (k + 1)) := run_ge
      have hn : skipP bs (run blankB bs (run lineB bs (k + 1))) = skipP bs i := by rw [← skip_round hx]; exact hk
      have hr : run blankB bs (run blankB bs (run lineB bs (k + 1))) = run blankB bs (run lineB bs (k + 1)) := run_run
      have HF := Lib.hid (And.intro hn (And.intro hr (And.intro h1 (And.intro h2 hkl))))
      have HPS := Lib.hid HK.out.1.pos
      clear hx hkl h1 h2 hn hr hk hrb
      go_wp2_with fail
      refine HT.out.mono ?_
      rintro e w2 ⟨rfl, hR2, hQ2⟩
      have H2 := Lib.hid (And.intro hR2 hQ2)
      clear hR2 hQ2
      go_wp2_with fail
      refine (HPL.out _ _ H2.out.1).mono ?_
      rintro e w3 ⟨a3, c3, rfl, hb3, hc3, hR3, hQ3⟩
      have H3 := Lib.hid (And.intro hR3 hQ3)
      clear hb3 hc3 hR3 hQ3
      go_wp2_with fail
      refine (HPB.out _ _ H3.out.1).mono ?_
      rintro e w4 ⟨a4, c4, rfl, hb4, hc4, hR4, hQ4⟩
      have H4 := Lib.hid (And.intro hR4 hQ4)
      clear hb4 hc4 hR4 hQ4
      go_wp2_with fail
      go_roundw
      case rel => exact ⟨_, HF.out.1, HF.out.2.1, Lib.hid ⟨H4.out.1, HK.out.2.step (H2.out.2.step (H3.out.2.step H4.out.2))⟩⟩
      case measure =>
        have e1 := H4.out.1.pos
        have e2 := HPS.out
        obtain ⟨_, _, f1, f2, f3⟩ := HF.out
        rw [e1, e2]
        omega
    · have HT := Lib.hid (take_no HK.out.1 hx)
      have hs : skipP bs i = k := by
        rw [← hk]
        refine skip_stop ?_ hx
        rw [← hrb]
        exact sees_run
      have HS := Lib.hid hs
      clear hx hs hk hrb
      go_wp2_with fail
      refine HT.out.mono ?_
      rintro e w2 ⟨rfl, hR2, hQ2⟩
      have H2 := Lib.hid (And.intro hR2 hQ2)
      clear hR2 hQ2
      go_wp2_with fail
      go_end0
      rw [HS.out]
      exact ⟨rfl, H2.out.1, HK.out.2.step H2.out.2⟩
theorem wrong_any (h : RdAt w R a c bs i) : Calls Try.prog 22 #[.pointer (some ⟨R, 0, none⟩)] w fun e w' => e = .returned (.agg #[.int .i64 10, .int .i64 (i : Int)]) ∧ Below w.heap.size w w' := by
  obtain ⟨c0, c1, f⟩ := h.cells
  have hRl := h.lt
  clear h
  go_enter Try.func22, Try.ntmps22
  have hl := load_fault (rangeAt_new w [.int .i64 10, .int .i64 (i : Int)] 27)
  have HL := Lib.hid hl
  clear hl
  go_wp2
  refine bodyPost_ret (v := .agg #[.int .i64 10, .int .i64 (i : Int)]) ?_ rfl ⟨rfl, (Below.refl _ _).alloc (Nat.le_refl _) _⟩
  have := HL.out
  simp [results, Try.results22, asAddr, Act.put, this]
end
end Go.Proofs.Ytgojipnhnmigpaa

