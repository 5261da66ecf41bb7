/-
  Layer 7: how a string is read.
-/
import Derived.Test.YtgojipnhnmigpaaLxApp
set_option linter.unusedVariables false
set_option linter.unusedSimpArgs false
namespace Go.Proofs.Ytgojipnhnmigpaa
open Go.RowKit Lx

section
variable {w W W' : World} {R : Nat} {a : Option Addr} {c : Nat} {bs acc : List Int} {i j k : Nat} {v : Value}
/-- What has been read of a string: up to place k, with these bytes. -/
structure LitSt (w : World) (R : Nat) (a : Option Addr) (c : Nat) (bs : List Int) (i : Nat) (W : World) (v : Value) (k : Nat) (acc : List Int) : Prop where
  tk : TkAt w R a c bs W k
  row : Row8 W (w.heap.size + 1) v acc
  says : litP bs (i + 1) [] = litP bs k acc
  few : acc.length ≤ k
  real : a ≠ none
  size : w.heap.size + 1 ≤ W.heap.size
theorem TkAt.size (h : TkAt w R a c bs W i) : w.heap.size + 1 ≤ W.heap.size := (Array.getElem?_eq_some_iff.1 h.own).1
theorem TkAt.grow (h : TkAt w R a c bs W i) (hc : Chg (fun k => w.heap.size + 1 ≤ k) W W') : TkAt w R a c bs W' i :=
  ⟨h.rd.chg hc (by have := h.old; omega) (fun g off e hn => by have := h.txt g off e hn; omega), h.chg.trans (hc.mono fun j _ e => .inr (by omega)),
    (hc.block _ h.size (by omega)).trans h.own, h.old, h.txt⟩
theorem row_past (hr : Row8 W (w.heap.size + 1) v acc) (hc : Chg (fun k => k = R) W W') (hR : R < w.heap.size) : Row8 W' (w.heap.size + 1) v acc := hr.chg hc fun k h1 _ e => by omega
theorem lit_some (h : RdAt w R a c bs i) (hx : bs[i]? = some 34) : a ≠ none := by
  obtain ⟨g, off, e, _⟩ := h.at (at_lt hx)
  rw [e]
  simp
/-- One pass further. -/
structure LitIn (w : World) (R : Nat) (a : Option Addr) (c : Nat) (bs : List Int) (i : Nat) (W' : World) (v : Value) (acc S : List Int) (a' : Option Addr) (j : Nat) : Prop where
  row : Row8 W' (w.heap.size + 1) v acc
  addr : ∃ x, a' = some x
  few : acc.length + S.length ≤ 1000000
  size : w.heap.size + 1 ≤ W'.heap.size
  next : ∀ v2 W2, Row8 W2 (w.heap.size + 1) v2 (acc ++ S) → W'.grownBy W2 v.ownBlock → LitSt w R a c bs i W2 v2 j (acc ++ S)
theorem LitSt.pass (h : LitSt w R a c bs i W v k acc) {a' : Option Addr} (hs : a ≠ none → ∃ x, a' = some x) (hr : RdAt W' R a c bs (run literalB bs k)) (hc : Chg (fun k => k = R) W W') :
    LitIn w R a c bs i W' v acc (Lx.seg bs k (run literalB bs k)) a' (run literalB bs k) := by
  have hle := h.tk.rd.le
  have h1 : run literalB bs k ≤ bs.length := run_le hle
  have h2 : k ≤ run literalB bs k := run_ge
  have hsl : (Lx.seg bs k (run literalB bs k)).length = run literalB bs k - k := seg_length h1
  have hsm := h.tk.rd.ok.small
  have hf := h.few
  have ht := h.tk.next hr hc
  refine ⟨row_past h.row hc h.tk.old, hs h.real, by omega, ht.size, fun v2 W2 q2 q3 => ?_⟩
  have hg := (row_past h.row hc h.tk.old).grown_chg q3
  have ht2 := ht.grow hg
  exact ⟨ht2, q2, by rw [h.says, lit_pass], by rw [List.length_append]; omega, h.real, ht2.size⟩
/-- Two " are one. -/
theorem LitSt.two (h : LitSt w R a c bs i W v j acc) (hq : bs[j]? = some 34) (hq2 : bs[j + 1]? = some 34) {W4 W6 : World} {v6 : Value} (ht : TkAt w R a c bs W4 (j + 1 + 1)) (hr : Row8 W4 (w.heap.size + 1) v acc)
    (hv : Row8 W6 (w.heap.size + 1) v6 (acc ++ [34])) (hg : (W4.alloc (.cells #[.int .u8 34] 5)).grownBy W6 v.ownBlock) : LitSt w R a c bs i W6 v6 (j + 1 + 1) (acc ++ [34]) := by
  have hr5 : Row8 (W4.alloc (.cells #[.int .u8 34] 5)) (w.heap.size + 1) v acc := hr.chg (S := fun _ => False) (chg_alloc _ _) (fun _ _ _ h => h)
  have ht5 := (ht.grow (chg_alloc _ (.cells #[.int .u8 34] 5))).grow (hr5.grown_chg hg)
  have := h.few
  exact ⟨ht5, hv, by rw [h.says, lit_two hq hq2], by simp; omega, h.real, ht5.size⟩
/-- The reader goes on. -/
theorem LitSt.next (h : LitSt w R a c bs i W v k acc) (hr : RdAt W' R a c bs j) (hc : Chg (fun k => k = R) W W') : TkAt w R a c bs W' j ∧ Row8 W' (w.heap.size + 1) v acc :=
  ⟨h.tk.next hr hc, row_past h.row hc h.tk.old⟩
theorem lit_start (h : RdAt w R a c bs i) (hx : bs[i]? = some 34) (hr : RdAt W' R a c bs (i + 1)) (hc : Chg (fun k => k = R) (w.alloc (.cells zTok.toArray 35)) W') : LitSt w R a c bs i W' (.slice none 0 0) (i + 1) [] := by
  have ht := (TkAt.start h).next hr hc
  exact ⟨ht, Row8.nil _ _, rfl, by simp, lit_some h hx, ht.size⟩
set_option maxRecDepth 100000 in
set_option maxHeartbeats 4000000 in
theorem literal_any (h : RdAt w R a c bs i) (hx : bs[i]? = some 34) : Calls Try.prog 32 #[.pointer (some ⟨R, 0, none⟩)] w (Gives w R a c bs (litP bs (i + 1) [])) := by
  have HS := Lib.hid (fun W (hr : RdAt W R a c bs (i + 1)) (hc : Chg (fun k => k = R) (w.alloc (.cells zTok.toArray 35)) W) => lit_start h hx hr hc)
  have HT := Lib.hid (take_yes (TkAt.start h).rd hx)
  clear h hx
  go_enter Try.func32, Try.ntmps32
  go_wp2_with fail
  refine HT.out.mono ?_
  rintro e w1 ⟨rfl, hR, hQ⟩
  have H1 := Lib.hid (HS.out _ hR hQ)
  clear hR hQ HT HS
  go_wp2_with fail
  go_loopw [4] (fun (v : Value) (wr : World) => ∃ k acc, Hid (LitSt w R a c bs i wr v k acc)) (fun _ wr => bs.length - posOf wr R)
  case atStart => exact ⟨_, _, H1⟩
  case round =>
    obtain ⟨k, acc, HK⟩ := hrel
    clear H1
    have HP := Lib.hid (pass_any HK.out.tk.rd asks_literal)
    have HPOS := Lib.hid HK.out.tk.rd.pos
    have HGE : Hid (k ≤ run literalB bs k) := Lib.hid run_ge
    have HST := Lib.hid (@lit_stop bs k (acc ++ Lx.seg bs k (run literalB bs k)))
    have HAP := Lib.hid (fun (W' : World) (a' : Option Addr) => HK.out.pass (W' := W') (a' := a'))
    have hp := HP.out
    unfold Passed at hp
    have HP := Lib.hid hp
    clear hp
    obtain ⟨S, hS⟩ : ∃ S, Lx.seg bs k (run literalB bs k) = S := ⟨_, rfl⟩
    obtain ⟨j, hj⟩ : ∃ j, run literalB bs k = j := ⟨_, rfl⟩
    have HSJ := Lib.hid (And.intro hS hj)
    rw [hS] at HAP HST HP
    rw [hj] at HAP HST HP HGE
    clear hS hj HSJ
    go_wp2_with fail
    refine HP.out.mono ?_
    rintro e w2 ⟨a1, c1, rfl, hb, hc, hR, hQ⟩
    have hI := HAP.out w2 a1 hc.2 hR hQ
    obtain ⟨x1, hx1⟩ := hI.addr
    subst hx1
    have HI := Lib.hid hI
    have HB := Lib.hid hb
    clear hb hc hR hQ hI HAP HP
    go_wp2_with (refine wpList_app8 rfl (.tmp 7) (.tmp 9) rfl (w.heap.size + 1) _ acc rfl HI.out.row (some x1) S.length c1 S rfl rfl HB.out x1 rfl HI.out.few HI.out.size ?_; intro v2 W2 hv2 hg2; have HL := Lib.hid (HI.out.next v2 W2 hv2 hg2); clear hv2 hg2)
    generalize acc ++ S = acc2 at *
    by_cases hq : bs[j]? = some 34
    · have HT1 := Lib.hid (take_yes HL.out.tk.rd hq)
      refine HT1.out.mono ?_
      rintro e w3 ⟨rfl, hR, hQ⟩
      have H3 := Lib.hid (HL.out.next hR hQ)
      clear hR hQ HT1
      go_wp2_with fail
      by_cases hq2 : bs[j + 1]? = some 34
      · have HT2 := Lib.hid (take_yes H3.out.1.rd hq2)
        refine HT2.out.mono ?_
        rintro e w4 ⟨rfl, hR, hQ⟩
        have H4 := Lib.hid (And.intro (H3.out.1.next hR hQ) (row_past H3.out.2 hQ H3.out.1.old))
        have hn := fun (W6 : World) (v6 : Value) => HL.out.two hq hq2 H4.out.1 H4.out.2 (W6 := W6) (v6 := v6)
        have hlen := HL.out.few
        have hjl := at_lt hq
        have hsm := HL.out.tk.rd.ok.small
        have HN := Lib.hid hn
        have hr5 : Row8 (w4.alloc (.cells #[.int .u8 34] 5)) (w.heap.size + 1) v2 acc2 := H4.out.2.chg (S := fun _ => False) (chg_alloc _ _) (fun _ _ _ h => h)
        have hb5 : BytesAt (w4.alloc (.cells #[.int .u8 34] 5)) (some ⟨w4.heap.size, 0, none⟩) [34] := .inr ⟨_, _, rfl, rangeAt_new w4 [.int .u8 34] _⟩
        have HFEW : Hid (acc2.length + [(34 : Int)].length ≤ 1000000 ∧ w.heap.size + 1 ≤ (w4.alloc (.cells #[.int .u8 34] 5)).heap.size) := Lib.hid ⟨by simp; omega, by have := H4.out.1.size; simp; omega⟩
        have HR5 := Lib.hid (And.intro hr5 hb5)
        have HJL := Lib.hid hjl
        clear hR hQ HT2 hr5 hb5 hlen hsm hn hjl hq hq2 HST
        go_wp2_with (refine wpList_app8 rfl (.tmp 21) (.tmp 22) rfl (w.heap.size + 1) _ acc2 rfl HR5.out.1 (some ⟨w4.heap.size, 0, none⟩) 1 1 [34] rfl rfl HR5.out.2 _ rfl HFEW.out.1 HFEW.out.2 ?_; intro v6 W6 hv6 hg6; have H6 := Lib.hid (HN.out W6 v6 hv6 hg6); clear hv6 hg6)
        go_roundw
        case rel => exact ⟨_, _, H6⟩
        case measure =>
          have e1 := H6.out.tk.rd.pos
          have e2 := HPOS.out
          have e3 := HGE.out
          have e4 := HJL.out
          rw [e1, e2]
          omega
      · have HT2 := Lib.hid (take_no H3.out.1.rd hq2)
        refine HT2.out.mono ?_
        rintro e w4 ⟨rfl, hR, hQ⟩
        have H4 := Lib.hid (And.intro (H3.out.1.next hR hQ) (row_past H3.out.2 hQ H3.out.1.old))
        have hok : litP bs (i + 1) [] = .tok 7 acc2 (j + 1) := by rw [HL.out.says]; exact lit_end hq hq2
        have HOK := Lib.hid hok
        obtain ⟨a2, c2, rfl, hb2, _⟩ := H4.out.2.value
        have hcv := run_txt w4 a2 acc2 c2 hb2
        have HE := Lib.hid (H4.out.1.ends 7 (txt acc2) 0)
        have hth := HE.out.1
        have hsz := size_tk 7 (txt acc2) 0
        have hall := all_tk 7 (txt acc2) 0
        clear hR hQ HT2 hq hq2 hok hb2 HST
        go_wp2_with (with_reducible refine wpList_store_mid rfl 35 (.tmp 2) (.tmp 20) rfl w.heap.size 0 (tk3 7 (txt acc2) 0).toArray rfl rfl hth hsz hall ?_)
        refine bodyPost_ret (v := .tuple #[.agg #[.int .i64 7, .string (txt acc2), .int .i64 0], .bool true]) ?_ rfl (by rw [HOK.out]; exact ⟨rfl, HE.out.2.1, HE.out.2.2.1⟩)
        have := HE.out.2.2.2
        simp [results, Try.results32, asAddr, Act.put, this]
    · have HT1 := Lib.hid (take_no HL.out.tk.rd hq)
      refine HT1.out.mono ?_
      rintro e w3 ⟨rfl, hR, hQ⟩
      have H3 := Lib.hid (HL.out.next hR hQ)
      have hbad : litP bs (i + 1) [] = .bad j := by rw [HL.out.says]; exact HST.out hq
      have HBAD := Lib.hid hbad
      clear hR hQ HT1 hq hbad
      have HE := Lib.hid (H3.out.1.ends 0 { data := #[] } 0)
      have hth := HE.out.1
      have hsz := size_tk 0 { data := #[] } 0
      have hall := all_tk 0 { data := #[] } 0
      go_wp2_with (with_reducible refine wpList_store_mid rfl 35 (.tmp 2) (.tmp 14) rfl w.heap.size 0 (tk3 0 { data := #[] } 0).toArray rfl rfl hth hsz hall ?_)
      refine bodyPost_ret (v := .tuple #[.agg #[.int .i64 0, .string { data := #[] }, .int .i64 0], .bool false]) ?_ rfl (by rw [HBAD.out]; exact ⟨⟨_, _, rfl⟩, HE.out.2.1, HE.out.2.2.1⟩)
      have := HE.out.2.2.2
      simp [results, Try.results32, asAddr, Act.put, this]
end
end Go.Proofs.Ytgojipnhnmigpaa

