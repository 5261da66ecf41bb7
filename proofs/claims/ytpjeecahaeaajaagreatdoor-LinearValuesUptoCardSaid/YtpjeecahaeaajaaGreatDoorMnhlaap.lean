/- By program out of: LnOdd, LnRow, LnRAddB. -/
import Derived.Test.YtpjeecahaeaajaaGreatDoorMllgban
import Derived.Test.YtpjeecahaeaajaaGreatDoorMkipboi
set_option linter.unusedVariables false
set_option linter.unusedSimpArgs false
namespace Go.Proofs.YtpjeecahaeaajaaGreatDoor
open Go.RowKit Rep Ln
structure HPo where
 s : Bool
 a1 : Option Addr
 c1 : Nat
 xs : List Nat
 a2 : Option Addr
 c2 : Nat
 ds : List Nat
 a : Option Addr
 cp : Nat
 hs : List HM
def HPo.cells (p : HPo) : List Value := [.bool p.s, .slice p.a1 p.xs.length p.c1, .slice p.a2 p.ds.length p.c2, .slice p.a p.hs.length p.cp]
def HPo.raw (p : HPo) : RawR := (p.s, (p.a1, p.xs.length, p.c1), (p.a2, p.ds.length, p.c2))
def HM.raw (d : HM) : RawR := (d.s, (d.a1, d.xs.length, d.c1), (d.a2, d.ds.length, d.c2))
structure HandPo (w : World) (p : HPo) : Prop where
 num : HandR w p.a1 p.c1 p.xs p.a2 p.c2 p.ds
 lx : p.xs.length ≤ 2000000
 ld : p.ds.length ≤ 2000000
 ms : HMs w p.a p.hs
theorem HandPo.kept {w w' : World} {p : HPo} (h : HandPo w p) (hb : Below w.heap.size w w') : HandPo w' p := ⟨h.num.kept hb, h.lx, h.ld, h.ms.kept hb⟩
def gM (d : HM) : Bool := greatB [d.raw]
def oddPo (p : HPo) : Bool := decide (12 < p.hs.length) || (greatB [p.raw] || (!rightP p.s p.xs p.ds p.hs || p.hs.any gM))
def Pols (w : World) (g : Nat) (ts : List HPo) : Prop := ∀ k p, ts[k]? = some p → w.rangeAt g (k * 4) p.cells
theorem Rats.one1 {w : World} {g : Nat} {s : Bool} {a1 a2 : Option Addr} {l1 c1 l2 c2 : Nat} {t : TypeId} (h : w.heap[g]? = some (.cells #[.bool s, .slice a1 l1 c1, .slice a2 l2 c2] t (0, 0))) : Rats w g [(s, (a1, l1, c1), (a2, l2, c2))] := fun k t hk => by
 obtain ⟨h0, h1, h2, _⟩ := cells3 h
 rcases k with _ | k
 ·simp at hk; subst hk; exact ⟨h0, h1, h2⟩
 ·simp at hk
theorem great_one {W : World} {s : Bool} {a1 a2 : Option Addr} {l1 c1 l2 c2 : Nat} :
    Calls Tryz.prog 11 #[.slice (some ⟨W.heap.size, 0, none⟩) 1 1] (W.alloc (.cells #[.bool s, .slice a1 l1 c1, .slice a2 l2 c2] 27)) (fun e W' => e = .returned (.bool (greatB [(s, (a1, l1, c1), (a2, l2, c2))])) ∧ Hid (Below W.heap.size W W')) :=
 (Great_any W.heap.size 1 [(s, (a1, l1, c1), (a2, l2, c2))] _ (Rats.one1 (heap_alloc_new W _)) (by simp) (by simp)).mono fun e W' hg => ⟨hg.1, Lib.hid (((Below.refl W.heap.size W).alloc (Nat.le_refl _) _).trans (hg.2.mono (by simp)))⟩
theorem any_take {hs : List HM} {i : Nat} {d : HM} (h : hs[i]? = some d) (ht : (hs.take i).any gM = false) (hp : gM d = false) : (hs.take (i + 1)).any gM = false := by
 rw [List.take_add_one, h, List.any_append, ht]
 simp [hp]
set_option maxRecDepth 100000 in
set_option maxHeartbeats 16000000 in
theorem Odd12_any (g c : Nat) (ts : List HPo) (w : World) (hr : Pols w g ts) (hh : ∀ p ∈ ts, HandPo w p) (hg : g < w.heap.size) (hl : ts.length ≤ 1000) :
    Calls Tryz.prog 10 #[.slice (some ⟨g, 0, none⟩) ts.length c] w (GivesV (.bool (ts.any oddPo)) w) := by
 have HP := Lib.hid (And.intro hr (And.intro hh hg))
 obtain ⟨N, hN⟩ : ∃ n, ts.length = n := ⟨_, rfl⟩
 have HN := Lib.hid hN
 rw [hN] at hl ⊢
 clear hr hh hg hN
 go_enter Tryz.func10, Tryz.ntmps10
 go_wp2_with fail
 go_loopw [9] (fun (iv : Value) (wr : World) => ∃ k : Nat, k ≤ N ∧ iv = .int .i64 (k : Int) ∧ Hid ((ts.take k).any oddPo = false) ∧ Hid (Below w.heap.size w wr)) (fun iv _ => N - (intOf iv).toNat)
 case atStart => exact ⟨0, Nat.zero_le _, rfl, Lib.hid rfl, Lib.hid (Below.refl _ _)⟩
 case round =>
  obtain ⟨k, hk, rfl, HE0, HB⟩ := hrel
  by_cases hlt : k < N
  ·have hk2 : k < ts.length := by rw [HN.out]; exact hlt
   have HT : Hid (ts.take (k + 1) = ts.take k ++ [ts[k]]) := Lib.hid (List.take_succ_eq_append_getElem hk2)
   have HM2 : Hid (ts[k] ∈ ts) := Lib.hid (List.getElem_mem hk2)
   have hh := (HP.out.2.1 ts[k] (List.getElem_mem hk2)).kept HB.out
   have hr := rangeAt_kept (HP.out.1 k ts[k] (List.getElem?_eq_getElem hk2)) HB.out HP.out.2.2
   generalize ts[k] = p at hh hr HT HM2
   obtain ⟨s, a1, c1, xs, a2, c2, ds, a, cp, hs⟩ := p
   obtain ⟨hnum, hlx, hld, hms⟩ := hh
   dsimp only [HPo.cells] at hr hnum hlx hld hms
   have hgr : g < wr.heap.size := rangeAt_lt hr (by simp)
   have d0 : wr.cell? ⟨g, k * 4, none⟩ = some (.bool s) := hr 0 _ rfl
   have d1 : wr.cell? ⟨g, k * 4 + 1, none⟩ = some (.slice a1 xs.length c1) := hr 1 _ rfl
   have d2 : wr.cell? ⟨g, k * 4 + 2, none⟩ = some (.slice a2 ds.length c2) := hr 2 _ rfl
   have d3 : wr.cell? ⟨g, k * 4 + 3, none⟩ = some (.slice a hs.length cp) := hr 3 _ rfl
   have hal := (Below.refl wr.heap.size wr).alloc (Nat.le_refl _) (.cells #[.bool s, .slice a1 xs.length c1, .slice a2 ds.length c2, .slice a hs.length cp] 30)
   have HOD : Hid (oddPo ⟨s, a1, c1, xs, a2, c2, ds, a, cp, hs⟩ = (decide (12 < hs.length) || (greatB [(s, (a1, xs.length, c1), (a2, ds.length, c2))] || (!rightP s xs ds hs || hs.any gM)))) := Lib.hid rfl
   have HYES : Hid (oddPo ⟨s, a1, c1, xs, a2, c2, ds, a, cp, hs⟩ = true → ts.any oddPo = true) := Lib.hid fun h => List.any_eq_true.2 ⟨_, HM2.out, h⟩
   have HNO : Hid (oddPo ⟨s, a1, c1, xs, a2, c2, ds, a, cp, hs⟩ = false → (ts.take (k + 1)).any oddPo = false) := Lib.hid fun h => by
    rw [HT.out, List.any_append, HE0.out]
    simp [h]
   obtain ⟨W6, hW6⟩ : ∃ W6, W6 = wr.alloc (.cells #[.bool s, .slice a1 xs.length c1, .slice a2 ds.length c2, .slice a hs.length cp] 30) := ⟨_, rfl⟩
   rw [← hW6] at hal
   have HH : Hid (HandR W6 a1 c1 xs a2 c2 ds ∧ xs.length ≤ 2000000 ∧ ds.length ≤ 2000000 ∧ HMs W6 a hs) := Lib.hid ⟨hnum.kept hal, hlx, hld, hms.kept hal⟩
   have hbl : W6.heap[wr.heap.size]? = some (.cells #[.bool s, .slice a1 xs.length c1, .slice a2 ds.length c2, .slice a hs.length cp] 30 (0, 0)) := by rw [hW6]; exact heap_alloc_new wr _
   have hGR := great_one (W := W6) (s := s) (a1 := a1) (a2 := a2) (l1 := xs.length) (c1 := c1) (l2 := ds.length) (c2 := c2)
   have hs6 : W6.heap.size = wr.heap.size + 1 := by rw [hW6]; simp
   rw [hs6] at hGR
   have HGR : Hid (Calls Tryz.prog 11 #[.slice (some ⟨wr.heap.size + 1, 0, none⟩) 1 1] (W6.alloc (.cells #[.bool s, .slice a1 xs.length c1, .slice a2 ds.length c2] 27)) (fun e W' => e = .returned (.bool (greatB [(s, (a1, xs.length, c1), (a2, ds.length, c2))])) ∧ Hid (Below W6.heap.size W6 W'))) := Lib.hid (by rw [hs6]; exact hGR)
   have HB6 := Lib.hid (HB.out.trans (hal.mono HB.out.size))
   have HBL := Lib.hid hbl
   have HW6 := Lib.hid hW6
   have HRC : Hid (∀ W, Below W6.heap.size W6 W → hs.length ≤ 12 → Calls Tryz.prog 9 #[.agg #[.bool s, .slice a1 xs.length c1, .slice a2 ds.length c2, .slice a hs.length cp]] W (GivesV (.bool (rightP s xs ds hs)) W)) := Lib.hid fun W hW hl => RRight_any (HH.out.1.kept hW) HH.out.2.1 HH.out.2.2.1 (HH.out.2.2.2.kept hW) (by omega)
   rw [hW6] at HGR
   obtain ⟨lx, hlxe⟩ : ∃ l, xs.length = l := ⟨_, rfl⟩
   obtain ⟨ld, hlde⟩ : ∃ l, ds.length = l := ⟨_, rfl⟩
   obtain ⟨n, hnn⟩ : ∃ l, hs.length = l := ⟨_, rfl⟩
   have HL := Lib.hid hnn
   rw [hlxe] at d1
   rw [hlde] at d2
   rw [hnn] at d3
   simp only [hlxe, hlde, hnn] at HGR HOD HRC HBL HW6
   have hii : (k : Int) < (N : Int) := by omega
   have hiw : wrap64 ((k : Int) + 1) = (k : Int) + 1 := IntWalk.wrap64_in _ (by omega)
   clear hr hnum hlx hld hms hal hs6 hbl hGR hlxe hlde hnn hk2
   by_cases h12 : 12 < n
   ·have hgd : decide ((12 : Int) < (n : Int)) = true := decide_eq_true (by omega)
    have HV : Hid (ts.any oddPo = true) := Lib.hid (HYES.out (by rw [HOD.out, decide_eq_true h12]; rfl))
    clear h12 hW6 HGR HRC HOD
    go_wp2_with fail
    rw [← HW6.out]
    go_ret
    exact GivesV.mk' (by rw [HV.out]; rfl) HB6.out
   ·have hgd : decide ((12 : Int) < (n : Int)) = false := decide_eq_false (by omega)
    have H12 := Lib.hid h12
    clear h12 hW6
    cases hgr2 : greatB [(s, (a1, lx, c1), (a2, ld, c2))]
    case true =>
     have HV : Hid (ts.any oddPo = true) := Lib.hid (HYES.out (by rw [HOD.out, hgr2]; simp))
     rw [hgr2] at HGR
     clear hgr2 HRC HOD
     go_wp2_with fail
     refine HGR.out.mono ?_
     rintro e w7 ⟨rfl, h7⟩
     rw [← HW6.out] at h7
     have HB7 := Lib.hid (HB6.out.trans (h7.out.mono HB6.out.size))
     clear h7 HGR
     go_wp2_with fail
     go_ret
     exact GivesV.mk' (by rw [HV.out]; rfl) HB7.out
    case false =>
     have HG0 := Lib.hid hgr2
     rw [hgr2] at HGR
     clear hgr2
     cases hrp : rightP s xs ds hs
     case false =>
      have HV : Hid (ts.any oddPo = true) := Lib.hid (HYES.out (by rw [HOD.out, hrp]; simp))
      rw [hrp] at HRC
      clear hrp HOD
      go_wp2_with fail
      refine HGR.out.mono ?_
      rintro e w7 ⟨rfl, h7⟩
      rw [← HW6.out] at h7
      have HB7 := Lib.hid (HB6.out.trans (h7.out.mono HB6.out.size))
      obtain ⟨m0, m1, m2, m3, _⟩ := cellsL4 (stayL HBL.out h7.out)
      have HR7 := Lib.hid (HRC.out _ h7.out (by have := H12.out; omega))
      clear h7 HGR HRC d0 d1 d2 d3
      go_wp2_with fail
      refine HR7.out.mono ?_
      rintro e w8 ⟨rfl, h8⟩
      have HB8 := Lib.hid (HB7.out.trans (h8.mono HB7.out.size))
      clear h8 HR7 m0 m1 m2 m3
      go_wp2_with fail
      go_ret
      exact GivesV.mk' (by rw [HV.out]; rfl) HB8.out
     case true =>
      rw [hrp] at HRC
      have HRP := Lib.hid hrp
      clear hrp
      go_wp2_with fail
      refine HGR.out.mono ?_
      rintro e w7 ⟨rfl, h7⟩
      rw [← HW6.out] at h7
      have HB7 := Lib.hid (HB6.out.trans (h7.out.mono HB6.out.size))
      have HB67 := Lib.hid h7.out
      obtain ⟨m0, m1, m2, m3, _⟩ := cellsL4 (stayL HBL.out h7.out)
      have HR7 := Lib.hid (HRC.out _ h7.out (by have := H12.out; omega))
      clear h7 HGR HRC d0 d1 d2 d3
      go_wp2_with fail
      refine HR7.out.mono ?_
      rintro e w8 ⟨rfl, h8⟩
      have HB8 := Lib.hid (HB7.out.trans (h8.mono HB7.out.size))
      have HB68 := Lib.hid (HB67.out.trans (h8.mono HB67.out.size))
      obtain ⟨m0, m1, m2, m3, _⟩ := cellsL4 (stayL HBL.out HB68.out)
      have HMS := Lib.hid (HH.out.2.2.2.kept HB68.out)
      clear h8 HR7 HB67 HB7
      go_wp2_with fail
      go_loopw [31] (fun (iv : Value) (wr : World) => ∃ j : Nat, j ≤ n ∧ iv = .int .i64 (j : Int) ∧ Hid ((hs.take j).any gM = false) ∧ Hid (Below w8.heap.size w8 wr)) (fun iv _ => n - (intOf iv).toNat)
      case atStart => exact ⟨0, Nat.zero_le _, rfl, Lib.hid rfl, Lib.hid (Below.refl _ _)⟩
      case round =>
       obtain ⟨j, hj, rfl, HJ, HBJ⟩ := hrel
       clear m0 m1 m2 m3
       by_cases hjn : j < n
       ·obtain ⟨d, g2, off, hd, rfl, hh, hlx, hld, hr⟩ := (HMS.out.kept HBJ.out).get (k := j) (by rw [HL.out]; exact hjn)
        have HD := Lib.hid hd
        obtain ⟨v, t, b1, f1, ys, b2, f2, es⟩ := d
        dsimp only [HM.cells] at hr
        obtain ⟨ly, hlye⟩ : ∃ l, ys.length = l := ⟨_, rfl⟩
        obtain ⟨le, hlee⟩ : ∃ l, es.length = l := ⟨_, rfl⟩
        have HGM : Hid (gM ⟨v, t, b1, f1, ys, b2, f2, es⟩ = greatB [(t, (b1, ly, f1), (b2, le, f2))]) := Lib.hid (by rw [← hlye, ← hlee]; rfl)
        rw [hlye, hlee] at hr
        have hr4 : wr.rangeAt g2 (off + j * 4) [.int .i64 v, .bool t, .slice b1 ly f1, .slice b2 le f2] := hr
        have hal := (Below.refl wr.heap.size wr).alloc (Nat.le_refl _) (.cells #[.int .i64 v, .bool t, .slice b1 ly f1, .slice b2 le f2] 51)
        have hGR := great_one (W := wr.alloc (.cells #[.int .i64 v, .bool t, .slice b1 ly f1, .slice b2 le f2] 51)) (s := t) (a1 := b1) (a2 := b2) (l1 := ly) (c1 := f1) (l2 := le) (c2 := f2)
        rw [show (wr.alloc (.cells #[.int .i64 v, .bool t, .slice b1 ly f1, .slice b2 le f2] 51)).heap.size = wr.heap.size + 1 by simp] at hGR
        have HGR : Hid (Calls Tryz.prog 11 #[.slice (some ⟨wr.heap.size + 1, 0, none⟩) 1 1] ((wr.alloc (.cells #[.int .i64 v, .bool t, .slice b1 ly f1, .slice b2 le f2] 51)).alloc (.cells #[.bool t, .slice b1 ly f1, .slice b2 le f2] 27)) (fun e W' => e = .returned (.bool (greatB [(t, (b1, ly, f1), (b2, le, f2))])) ∧ Hid (Below wr.heap.size wr W'))) := Lib.hid (hGR.mono fun e W' h => ⟨h.1, Lib.hid (hal.trans (h.2.out.mono (by simp)))⟩)
        have hm := heap_alloc_new wr (.cells #[.int .i64 v, .bool t, .slice b1 ly f1, .slice b2 le f2] 51)
        obtain ⟨m0, m1, m2, m3, _⟩ := cellsL4 hm
        have hjj : (j : Int) < (n : Int) := by omega
        have hjw : wrap64 ((j : Int) + 1) = (j : Int) + 1 := IntWalk.wrap64_in _ (by have := H12.out; omega)
        clear hd hh hlx hld hr hal hGR hlye hlee hm
        cases hgy : greatB [(t, (b1, ly, f1), (b2, le, f2))]
        case true =>
         have HV : Hid (ts.any oddPo = true) := Lib.hid (HYES.out (by rw [HOD.out, List.any_eq_true.2 ⟨_, List.mem_of_getElem? HD.out, HGM.out.trans hgy⟩]; simp))
         rw [hgy] at HGR
         clear hgy
         go_wp2_with (first | (refine wpList_val (.agg #[.int .i64 v, .bool t, .slice b1 ly f1, .slice b2 le f2]) (run_load_op 51 (.tmp 33) (by with_reducible rfl) g2 (off + j * 4) (by rfl) _ _ hr4 Tryz.underlying51 rfl (by rw [size_mono]; rfl)) (by rfl) ?_) | (with_reducible refine wpList_alloc_agg rfl 51 rfl zMono zero_mono ?_) | (refine wpList_store_new rfl 51 (.tmp 6) (.tmp 34) (by with_reducible rfl) wr zMono #[.int .i64 v, .bool t, .slice b1 ly f1, .slice b2 le f2] (by rfl) (by rfl) (by rfl) (by rw [size_mono]; rfl) (by rfl) (one_mono ⟨v, t, b1, ly, f1, b2, le, f2⟩) ?_))
         refine HGR.out.mono ?_
         rintro e w9 ⟨rfl, h9⟩
         have HB9 := Lib.hid (HB8.out.trans ((HBJ.out.trans (h9.out.mono HBJ.out.size)).mono HB8.out.size))
         clear h9 HGR m0 m1 m2 m3
         go_wp2_with fail
         go_ret
         exact GivesV.mk' (by rw [HV.out]; rfl) HB9.out
        case false =>
         have HJ2 := Lib.hid (any_take HD.out HJ.out (HGM.out.trans hgy))
         rw [hgy] at HGR
         clear hgy
         go_wp2_with (first | (refine wpList_val (.agg #[.int .i64 v, .bool t, .slice b1 ly f1, .slice b2 le f2]) (run_load_op 51 (.tmp 33) (by with_reducible rfl) g2 (off + j * 4) (by rfl) _ _ hr4 Tryz.underlying51 rfl (by rw [size_mono]; rfl)) (by rfl) ?_) | (with_reducible refine wpList_alloc_agg rfl 51 rfl zMono zero_mono ?_) | (refine wpList_store_new rfl 51 (.tmp 6) (.tmp 34) (by with_reducible rfl) wr zMono #[.int .i64 v, .bool t, .slice b1 ly f1, .slice b2 le f2] (by rfl) (by rfl) (by rfl) (by rw [size_mono]; rfl) (by rfl) (one_mono ⟨v, t, b1, ly, f1, b2, le, f2⟩) ?_))
         refine HGR.out.mono ?_
         rintro e w9 ⟨rfl, h9⟩
         have HB9 := Lib.hid (HBJ.out.trans (h9.out.mono HBJ.out.size))
         clear h9 HGR m0 m1 m2 m3
         go_wp2_with fail
         go_roundw
         case rel => exact ⟨j + 1, by omega, by go_num, HJ2, HB9⟩
         case measure => first | exact measure_next hjw hjn | exact measure_next rfl hjn
       ·obtain rfl : j = n := by omega
        have HV : Hid ((ts.take (k + 1)).any oddPo = false) := Lib.hid (HNO.out (by
         have h1 := HJ.out
         rw [List.take_of_length_le (by rw [HL.out]; exact Nat.le_refl _)] at h1
         rw [HOD.out, HG0.out, HRP.out, h1, decide_eq_false H12.out]; rfl))
        have HB9 := Lib.hid (HB8.out.trans (HBJ.out.mono HB8.out.size))
        go_wp2_with fail
        go_roundw
        case rel => exact ⟨k + 1, by omega, by go_num, HV, HB9⟩
        case measure => first | exact measure_next hiw hlt | exact measure_next rfl hlt
  ·obtain rfl : k = N := by omega
   go_wp2_with fail
   go_ret
   exact GivesV.mk' (by have := HE0.out; rw [List.take_of_length_le (by rw [HN.out]; exact Nat.le_refl _)] at this; rw [this]; rfl) HB.out
end Go.Proofs.YtpjeecahaeaajaaGreatDoor

set_option linter.unusedVariables false
set_option linter.unusedSimpArgs false
namespace Go.Proofs.YtpjeecahaeaajaaGreatDoor
open Go.RowKit Rep Ln
structure OwnG (Gd : Value → Prop) (e : TypeId) (sz : Nat) (w : World) (B : Nat) (v : Value) (n : Nat) (xs : List Value) : Prop where
 len : xs.length = n * sz
 at_ : (v = .slice none 0 0 ∧ n = 0) ∨ ∃ g cap, v = .slice (some ⟨g, 0, none⟩) n cap ∧ B ≤ g ∧ n ≤ cap ∧ cap ≤ maxLen ∧ ∃ cur : Array Value, w.heap[g]? = some (.cells cur e (0, 0)) ∧ cur.size = cap * sz ∧ cur.toList.take (n * sz) = xs ∧ ∀ u ∈ cur.toList, Gd u
section
variable {Gd : Value → Prop} {e : TypeId} {sz : Nat} {w w' : World} {B : Nat} {v : Value} {n : Nat} {xs : List Value}
theorem OwnG.nil (Gd : Value → Prop) (e : TypeId) (sz : Nat) (w : World) (B : Nat) : OwnG Gd e sz w B (.slice none 0 0) 0 [] := ⟨by simp, .inl ⟨rfl, rfl⟩⟩
theorem OwnG.of_block (h : OwnG Gd e sz w B v n xs) (hb : ∀ g, v.ownBlock = some g → w'.heap[g]? = w.heap[g]?) : OwnG Gd e sz w' B v n xs := by
 refine ⟨h.len, ?_⟩
 rcases h.at_ with h1 | ⟨g, cap, rfl, h2, h3, h4, cur, h5, h6⟩
 ·exact .inl h1
 ·exact .inr ⟨g, cap, rfl, h2, h3, h4, cur, (hb g rfl).trans h5, h6⟩
theorem OwnG.lt (h : OwnG Gd e sz w B v n xs) : ∀ g, v.ownBlock = some g → g < w.heap.size ∧ B ≤ g ∧ ∃ cur, w.heap[g]? = some (.cells cur e (0, 0)) := by
 intro g hg
 rcases h.at_ with ⟨rfl, _⟩ | ⟨g', cap, rfl, h2, h3, h4, cur, h5, h6⟩
 ·simp [Value.ownBlock] at hg
 ·simp [Value.ownBlock] at hg
  subst hg
  exact ⟨(Array.getElem?_eq_some_iff.1 h5).1, h2, cur, h5⟩
theorem OwnG.kept (h : OwnG Gd e sz w B v n xs) (hb : Below w.heap.size w w') : OwnG Gd e sz w' B v n xs := h.of_block fun g hg => hb.block g (h.lt g hg).1
theorem OwnG.past {i : Nat} (h : OwnG Gd e sz w B v n xs) (hg : w.grownBy w' (some i)) (hi : ∀ g, v.ownBlock = some g → g ≠ i) : OwnG Gd e sz w' B v n xs := h.of_block fun g hgg => hg.block g (h.lt g hgg).1 (by have := hi g hgg; simpa using this)
theorem OwnG.value (h : OwnG Gd e sz w B v n xs) : ∃ a c, v = .slice a n c ∧ n ≤ c ∧ c ≤ maxLen ∧ (a = none → n = 0 ∧ c = 0) ∧ (∀ x, a = some x → ∃ g, x = ⟨g, 0, none⟩ ∧ v.ownBlock = some g) := by
 rcases h.at_ with ⟨rfl, rfl⟩ | ⟨g, cap, rfl, h2, h3, h4, h5⟩
 ·exact ⟨none, 0, rfl, Nat.le_refl _, by simp [maxLen], fun _ => ⟨rfl, rfl⟩, (by intro x hx; cases hx)⟩
 ·exact ⟨_, cap, rfl, h3, h4, (by intro e; cases e), (by intro x hx; cases hx; exact ⟨g, rfl, rfl⟩)⟩
theorem OwnG.cell (h : OwnG Gd e sz w B v n xs) {g : Nat} (hg : v.ownBlock = some g) (j : Nat) (u : Value) (hu : xs[j]? = some u) : w.cell? ⟨g, j, none⟩ = some u := by
 rcases h.at_ with ⟨rfl, _⟩ | ⟨g', cap, rfl, h2, h3, h4, cur, h5, h6, h7, _⟩
 ·simp [Value.ownBlock] at hg
 ·simp [Value.ownBlock] at hg
  subst hg h7
  rw [List.getElem?_take] at hu
  split at hu
  ·simp only [World.cell?, h5]
   rw [← Array.getElem?_toList]
   exact hu
  ·cases hu
theorem OwnG.good (h : OwnG Gd e sz w B v n xs) {g : Nat} (hg : v.ownBlock = some g) {off : Nat} {u : Value} (hu : w.cell? ⟨g, off, none⟩ = some u) : Gd u := by
 rcases h.at_ with ⟨rfl, _⟩ | ⟨g', cap, rfl, h2, h3, h4, cur, h5, h6, h7, h8⟩
 ·simp [Value.ownBlock] at hg
 ·simp [Value.ownBlock] at hg
  subst hg
  simp only [World.cell?, h5] at hu
  exact h8 u (Array.mem_toList_iff.2 (Array.mem_of_getElem? hu))
end
structure RowG (Gd : Value → Prop) (t e : TypeId) (sz bytes : Nat) : Prop where
 ut : Tryz.prog.underlying t = some (.slice e)
 info : ∃ i z, Tryz.prog.info? e = some i ∧ i.zero = some z ∧ i.size = sz ∧ i.bytes = bytes ∧ z.cells.size = sz ∧ ∀ u ∈ z.cells.toList, Gd u
 pos : 0 < sz
 few : bytes ≤ 10000000
theorem good_zeroCells {Gd : Value → Prop} {z : Array Value} (hp : 0 < z.size) (h : ∀ u ∈ z.toList, Gd u) (n : Nat) : ∀ u ∈ (Builtin.zeroCells z n).toList, Gd u := by
 intro u hu
 simp only [Builtin.zeroCells, Array.toList_map, List.mem_map] at hu
 obtain ⟨i, _, rfl⟩ := hu
 have hlt : i % z.size < z.size := Nat.mod_lt _ hp
 rw [getElem!_pos z _ hlt]
 exact h _ (Array.mem_toList_iff.2 (Array.getElem_mem hlt))
theorem append_G {Gd : Value → Prop} {t ty e : TypeId} {sz bytes : Nat} (hT : RowG Gd t e sz bytes) {w : World} {B : Nat} {v : Value} {n : Nat} {xs : List Value} (hown : OwnG Gd e sz w B v n xs)
    (ad : Addr) (m c : Nat) (news : List Value) (h0 : 0 < m) (hl : news.length = m * sz) (hnews : ∀ j u, news[j]? = some u → w.cell? (ad.add j) = some u) (h1 : ∀ u ∈ news, u.oneCell' = true) (hg : ∀ u ∈ news, Gd u) (hn : n + m ≤ 2000000) (hB : B ≤ w.heap.size) :
    ∃ v' w', (Builtin.append_ #[t, t] ty #[v, .slice (some ad) m c]).run Tryz.prog w = .ok v' w' ∧ OwnG Gd e sz w' B v' (n + m) (xs ++ news) ∧ w.grownBy w' v.ownBlock ∧ (∃ g, v'.ownBlock = some g ∧ (v.ownBlock = some g ∨ w.heap.size ≤ g)) := by
 obtain ⟨i, z, i1, i2, i3, i4, i5, i6⟩ := hT.info
 have hf := hT.few
 have hb : (n + m) * bytes ≤ 140737488355328 := Nat.le_trans (Nat.mul_le_mul hn hf) (by omega)
 have hmax : n + m ≤ maxLen := by unfold maxLen; omega
 have hlen : (xs ++ news).length = (n + m) * sz := by rw [List.length_append, hown.len, hl, Nat.add_mul]
 have hzp : 0 < z.cells.size := by rw [i5]; exact hT.pos
 rcases hown.at_ with ⟨rfl, rfl⟩ | ⟨g, cap, rfl, hBg, hnc, hcm, cur, k1, k2, k3, k4⟩
 ·have hx : xs = [] := List.eq_nil_of_length_eq_zero (by have := hown.len; simpa using this)
  subst hx
  have hr := run_append_nil (P := Tryz.prog) w t ty e i z hT.ut i1 i2 ad m c news (by rw [i3]; exact hl) hnews h0 (by omega) (by rw [i4]; rw [Nat.zero_add] at hb; omega)
  have hge := grownCap_ge w m 0 e
  have hcm : grownCap w m 0 e ≤ maxLen := grownCap_le_maxLen w m 0 e (by omega)
  refine ⟨_, _, hr, ⟨hlen, .inr ⟨w.heap.size, _, by rw [Nat.zero_add], hB, by rw [Nat.zero_add]; exact hge, hcm, _, heap_alloc_new w.drew _, ?_, ?_, ?_⟩⟩, ⟨rfl, rfl, rfl, by simp, fun k hk _ => Below.heap_alloc w.drew _ k hk⟩, ⟨w.heap.size, rfl, .inr (Nat.le_refl _)⟩⟩
  ·simp only [Array.size_append, List.size_toArray, size_zeroCells, i5, hl]
   rw [← Nat.add_mul, Nat.add_sub_cancel' hge]
  ·simp only [Array.toList_append, List.nil_append]
   have : news.length = (0 + m) * sz := by rw [hl, Nat.zero_add]
   rw [← this]
   exact List.take_left
  ·intro u hu
   simp only [Array.toList_append, List.mem_append] at hu
   rcases hu with hu | hu
   ·exact hg u (by simpa using hu)
   ·exact good_zeroCells hzp i6 _ u hu
 ·by_cases hroom : n + m ≤ cap
  ·have hr := run_append_room (P := Tryz.prog) w t ty e i hT.ut i1 g n cap cur k1 ad m c news (by rw [i3]; exact hl) hnews h1 hroom (by rw [i3, hl, k2, ← Nat.add_mul]; exact Nat.mul_le_mul_right _ hroom)
   rw [i3, k3] at hr
   refine ⟨_, _, hr, ⟨hlen, .inr ⟨g, cap, rfl, hBg, hroom, hcm, _, setRow_heap w g cur _ e _ k1, ?_, ?_, ?_⟩⟩, ⟨rfl, rfl, rfl, by simp, fun k _ hk => setRow_other w g k _ (fun e => hk (by simp [e, Value.ownBlock]))⟩, ⟨g, rfl, .inl rfl⟩⟩
   ·have h2 : n * sz + m * sz ≤ cap * sz := by rw [← Nat.add_mul]; exact Nat.mul_le_mul_right _ hroom
    simp only [List.size_toArray, List.length_append, List.length_drop, Array.length_toList, hown.len, hl, k2]
    omega
   ·simp only [List.append_assoc]
    rw [← List.append_assoc, ← hlen]
    exact List.take_left
   ·intro u hu
    simp only [List.mem_append] at hu
    rcases hu with (hu | hu) | hu
    ·rw [← k3] at hu
     exact k4 u (List.mem_of_mem_take hu)
    ·exact hg u hu
    ·exact k4 u (List.mem_of_mem_drop hu)
  ·have hge := grownCap_ge w (n + m) cap e
   have hcm' : grownCap w (n + m) cap e ≤ maxLen := grownCap_le_maxLen w (n + m) cap e hmax
   have hcell := hown.cell (g := g) rfl
   have hr := run_append_grow (P := Tryz.prog) w t ty e i z hT.ut i1 i2 ⟨g, 0, none⟩ n cap xs (by rw [i3]; exact hown.len) (fun j v hv => by rw [Go.WideShapes.add_plain, Nat.zero_add]; exact hcell j v hv) ad m c news (by rw [i3]; exact hl) hnews (by omega) (by unfold maxLen at hmax; omega) (by rw [i4]; exact growslice_fits (by omega) hb)
   refine ⟨_, _, hr, ⟨hlen, .inr ⟨w.heap.size, _, rfl, hB, hge, hcm', _, heap_alloc_new w.drew _, ?_, ?_, ?_⟩⟩, ⟨rfl, rfl, rfl, by simp, fun k hk _ => Below.heap_alloc w.drew _ k hk⟩, ⟨w.heap.size, rfl, .inr (Nat.le_refl _)⟩⟩
   ·simp only [Array.size_append, List.size_toArray, size_zeroCells, i5, hown.len, hl]
    rw [← Nat.add_mul, ← Nat.add_mul, Nat.add_sub_cancel' hge]
   ·simp only [Array.toList_append, List.append_assoc]
    rw [← List.append_assoc, ← hlen]
    exact List.take_left
   ·intro u hu
    simp only [Array.toList_append, List.mem_append] at hu
    rcases hu with (hu | hu) | hu
    ·rw [← k3] at hu
     exact k4 u (List.mem_of_mem_take (by simpa using hu))
    ·exact hg u (by simpa using hu)
    ·exact good_zeroCells hzp i6 _ u hu
section
variable {Gd : Value → Prop} {t e : TypeId} {sz bytes : Nat} {ops : Array Oper} {o : Oper} {a : Act} {w : World} {K : Act → World → Prop} {Q : Exit → Act → World → Prop} {rest : List Oper} {E : Prop} {B : Nat} {v : Value} {n : Nat} {xs : List Value}
theorem wp_appG (hT : RowG Gd t e sz bytes) (s x : Operand) (ho : o.op = .call { callee := .builtin .append, args := #[s, x], argTypes := #[t, t] }) (hv : a.eval s = v) (hown : OwnG Gd e sz w B v n xs)
    (ad : Addr) (m c : Nat) (news : List Value) (hx : a.eval x = .slice (some ad) m c) (h0 : 0 < m) (hl : news.length = m * sz) (hnews : ∀ j u, news[j]? = some u → w.cell? (ad.add j) = some u) (h1 : ∀ u ∈ news, u.oneCell' = true) (hg : ∀ u ∈ news, Gd u) (hn : n + m ≤ 2000000) (hB : B ≤ w.heap.size)
    (h : ∀ v' w', OwnG Gd e sz w' B v' (n + m) (xs ++ news) → w.grownBy w' v.ownBlock → (∃ g, v'.ownBlock = some g ∧ (v.ownBlock = some g ∨ w.heap.size ≤ g)) → K (a.put o.dst v') w') : o.wp Tryz.prog a w K Q := by
 obtain ⟨v', w', q1, q2, q3, q4⟩ := append_G (ty := o.type) hT hown ad m c news h0 hl hnews h1 hg hn hB
 unfold Oper.wp execOp
 simp only [ho, resolve, invoke, builtin, Sem.run_bind, Sem.run_pure, Result.andThen_ok, List.map_toArray, List.map_cons, List.map_nil, hv, hx, q1]
 exact h v' w' q2 q3 q4
theorem wpList_appG (hT : RowG Gd t e sz bytes) (hgd : o.guard = none) (s x : Operand) (ho : o.op = .call { callee := .builtin .append, args := #[s, x], argTypes := #[t, t] }) (hv : a.eval s = v) (hown : OwnG Gd e sz w B v n xs)
    (ad : Addr) (m c : Nat) (news : List Value) (hx : a.eval x = .slice (some ad) m c) (h0 : 0 < m) (hl : news.length = m * sz) (hnews : ∀ j u, news[j]? = some u → w.cell? (ad.add j) = some u) (h1 : ∀ u ∈ news, u.oneCell' = true) (hg : ∀ u ∈ news, Gd u) (hn : n + m ≤ 2000000) (hB : B ≤ w.heap.size)
    (h : ∀ v' w', OwnG Gd e sz w' B v' (n + m) (xs ++ news) → w.grownBy w' v.ownBlock → (∃ g, v'.ownBlock = some g ∧ (v.ownBlock = some g ∨ w.heap.size ≤ g)) → wpList Tryz.prog ops Q rest (a.put o.dst v') w') : wpList Tryz.prog ops Q (o :: rest) a w :=
 wpList_plain hgd fun _ hK => wp_appG hT s x ho hv hown ad m c news hx h0 hl hnews h1 hg hn hB fun v' w' k1 k2 k3 => hK _ _ (h v' w' k1 k2 k3)
theorem step_appG (hT : RowG Gd t e sz bytes) (hgd : o.guard = none) (s x : Operand) (ho : o.op = .call { callee := .builtin .append, args := #[s, x], argTypes := #[t, t] }) (hv : a.eval s = v) (hown : OwnG Gd e sz w B v n xs)
    (ad : Addr) (m c : Nat) (news : List Value) (hx : a.eval x = .slice (some ad) m c) (h0 : 0 < m) (hl : news.length = m * sz) (hnews : ∀ j u, news[j]? = some u → w.cell? (ad.add j) = some u) (h1 : ∀ u ∈ news, u.oneCell' = true) (hg : ∀ u ∈ news, Gd u) (hn : n + m ≤ 2000000) (hB : B ≤ w.heap.size)
    (h : ∀ v' w', OwnG Gd e sz w' B v' (n + m) (xs ++ news) → w.grownBy w' v.ownBlock → (∃ g, v'.ownBlock = some g ∧ (v.ownBlock = some g ∨ w.heap.size ≤ g)) → K (a.put o.dst v') w') :
    if Region.wanted o (yielded ops a.tmps) = true then Oper.wp Tryz.prog o a w K Q else E := by
 have hw : Region.wanted o (yielded ops a.tmps) = true := by simp [Region.wanted, hgd]
 rw [if_pos hw]
 exact wp_appG hT s x ho hv hown ad m c news hx h0 hl hnews h1 hg hn hB h
end
def GoodI (u : Value) : Prop := ∃ i, u = .int .i64 i
theorem rowG_int : RowG GoodI 39 3 1 8 := by
 obtain ⟨i, h1, h2, h3, h4⟩ := info_partsM (show (Tryz.prog.info? 3).map (fun i => (i.zero, i.size, i.bytes)) = some (some (.int .i64 0), 1, 8) from by kernel_rfl)
 exact ⟨Tryz.underlying39, ⟨i, _, h1, h2, h3, h4, rfl, fun u hu => by simp [Value.cells] at hu; exact ⟨0, hu⟩⟩, by omega, by omega⟩
theorem rowG_mono : RowG GoodM 28 51 4 64 := by
 obtain ⟨i, h1, h2, h3, h4⟩ := info_partsM info_mono
 refine ⟨Tryz.underlying28, ⟨i, _, h1, h2, h3, h4, rfl, fun u hu => ?_⟩, by omega, by omega⟩
 simp only [Value.cells, zMono, List.mem_cons, List.not_mem_nil, or_false] at hu
 rcases hu with rfl | rfl | rfl | rfl
 ·exact .inl ⟨_, rfl⟩
 ·exact .inr (.inl ⟨_, rfl⟩)
 ·exact .inr (.inr ⟨_, _, _, rfl⟩)
 ·exact .inr (.inr ⟨_, _, _, rfl⟩)
def intC (vs : List Int) : List Value := vs.map fun v => .int .i64 v
theorem intC_at {vs : List Int} {i : Nat} {v : Int} (h : vs[i]? = some v) : (intC vs)[i]? = some (.int .i64 v) := by simp [intC, h]
end Go.Proofs.YtpjeecahaeaajaaGreatDoor

set_option linter.unusedVariables false
set_option linter.unusedSimpArgs false
namespace Go.Proofs.YtpjeecahaeaajaaGreatDoor
open Go.RowKit Rep Ln
def R1At (W0 : World) (c : Rat) (i : Nat × RawR × RawR × RawR × RawR × RawR) (W : World) : Prop :=
 Below W0.heap.size W0 W ∧ W.heap[i.1]? = some (.cells #[.bool i.2.2.2.2.2.1, .slice i.2.2.2.2.2.2.1.1 i.2.2.2.2.2.2.1.2.1 i.2.2.2.2.2.2.1.2.2, .slice i.2.2.2.2.2.2.2.1 i.2.2.2.2.2.2.2.2.1 i.2.2.2.2.2.2.2.2.2, .slice none 0 0] 30 (0, 0)) ∧ VQ c i.2.2.2.2.2 W ∧ W0.heap.size ≤ i.1
theorem r1_end {W0 W : World} {c : Rat} {P : Nat} {r1 r2 r3 r4 : RawR} {s : Bool} {z1 z2 : Option Addr} {m1 k1 m2 k2 : Nat} (hb : Below W0.heap.size W0 W)
    (hP : W.heap[P]? = some (.cells #[.bool false, .slice none 0 0, .slice none 0 0, .slice none 0 0] 30 (0, 0))) (hp : W0.heap.size ≤ P) (hv : VQ c (s, (z1, m1, k1), (z2, m2, k2)) W) :
    R1At W0 c (P, r1, r2, r3, r4, (s, (z1, m1, k1), (z2, m2, k2))) (putL4 W P (.bool s) (.slice z1 m1 k1) (.slice z2 m2 k2) (.slice none 0 0)) := by
 refine ⟨?_, putL4_block hP _ _ _ _, hv.pastL (poly_noI hP).2 (putL4_grown _ _ _ _ _ _), hp⟩
 unfold putL4
 exact (((hb.setCell (p := ⟨P, 0, none⟩) hp _).setCell (p := ⟨P, 1, none⟩) hp _).setCell (p := ⟨P, 2, none⟩) hp _).setCell (p := ⟨P, 3, none⟩) hp _
def GotR (W5 : World) (c : Rat) (ms : List Mo) (e : Ending) (W' : World) : Prop :=
 ∃ s z1 m1 k1 z2 m2 k2 a cp rs, e = .returned (.agg #[.bool s, .slice z1 m1 k1, .slice z2 m2 k2, .slice a (List.length rs) cp]) ∧ Hid (Below W5.heap.size W5 W') ∧ Hid (PolyAt c ms (s, (z1, m1, k1), (z2, m2, k2)) a rs W')
theorem below_of_grownL {W W' : World} (h : W.grownBy W' none) : Below W.heap.size W W' := ⟨h.os, h.tape, h.output, h.size, fun k hk => h.block k hk (by simp)⟩
theorem below_grownL {B : Nat} {w W W' : World} {r : Option Nat} (h : Below B w W) (hg : W.grownBy W' r) (hB : B ≤ W.heap.size) (hr : ∀ g, r = some g → B ≤ g) : Below B w W' := h.grown hg hB hr
theorem OwnG.noLimb {W : World} {B : Nat} {v : Value} {n : Nat} {xs : List Value} (h : OwnG GoodM 51 4 W B v n xs) {g : Nat} (hg : v.ownBlock = some g) : NoLimb W g := fun off i e => by
 rcases h.good hg e with ⟨_, hx⟩ | ⟨_, hx⟩ | ⟨_, _, _, hx⟩ <;> cases hx
theorem VQ.pastO {q : Rat} {r : RawR} {W W' : World} {B : Nat} {v : Value} {n : Nat} {xs : List Value} (hq : VQ q r W) (h : OwnG GoodM 51 4 W B v n xs) (hg : W.grownBy W' v.ownBlock) : VQ q r W' := by
 cases ho : v.ownBlock with
 | none => rw [ho] at hg; exact hq.kept (below_of_grownL hg)
 | some g => rw [ho] at hg; exact hq.pastL (h.noLimb ho) hg
theorem OwnG.ne {Gd : Value → Prop} {e t : TypeId} {sz : Nat} {W : World} {B : Nat} {v : Value} {n : Nat} {xs : List Value} (h : OwnG Gd e sz W B v n xs) {r : Nat} {c : Array Value} {f : Nat × Nat} (hr : W.heap[r]? = some (.cells c t f)) (ht : e ≠ t) : ∀ g, v.ownBlock = some g → g ≠ r := by
 rintro g hg rfl
 obtain ⟨_, _, cur, h1⟩ := h.lt g hg
 rw [h1] at hr
 cases hr
 exact ht rfl
theorem block_past {W W' : World} {r : Nat} {c : Array Value} {t : TypeId} {f : Nat × Nat} {o : Option Nat} (hr : W.heap[r]? = some (.cells c t f)) (hg : W.grownBy W' o) (hn : ∀ g, o = some g → g ≠ r) : W'.heap[r]? = some (.cells c t f) :=
 (hg.block r (Array.getElem?_eq_some_iff.1 hr).1 (fun e => hn r e.symm rfl)).trans hr
structure RdS (W0 : World) (P : Nat) (vv : Value) (vs : List Int) (c : RawR) (cq : Rat) (rs : List RM) (acc : List Mo) (v : Value) (W : World) : Prop where
 hb : Below W0.heap.size W0 W
 blk : W.heap[P]? = some (.cells #[.bool c.1, .slice c.2.1.1 c.2.1.2.1 c.2.1.2.2, .slice c.2.2.1 c.2.2.2.1 c.2.2.2.2, v] 30 (0, 0))
 pge : W0.heap.size ≤ P
 num : VQ cq c W
 vs_ : OwnG GoodI 3 1 W W0.heap.size vv vs.length (intC vs)
 row : OwnG GoodM 51 4 W W0.heap.size v rs.length (cellsM rs)
 len : rs.length = acc.length
 vals : ∀ (k : Nat) (d : RM) (x : Mo), rs[k]? = some d → acc[k]? = some x → d.ok x W
section
variable {W0 W W' : World} {P : Nat} {vv : Value} {vs : List Int} {c : RawR} {cq : Rat} {rs : List RM} {acc : List Mo} {v v' : Value}
theorem RdS.kept (h : RdS W0 P vv vs c cq rs acc v W) (hb : Below W.heap.size W W') : RdS W0 P vv vs c cq rs acc v W' :=
 ⟨h.hb.trans (hb.mono h.hb.size), stayL h.blk hb, h.pge, h.num.kept hb, h.vs_.kept hb, h.row.kept hb, h.len, fun k d x h1 h2 => (h.vals k d x h1 h2).kept hb⟩
theorem RdS.vcell (h : RdS W0 P vv vs c cq rs acc v W) {t : Nat} {x : Int} (hx : vs[t]? = some x) {g : Nat} (hg : vv.ownBlock = some g) : W.cell? ⟨g, t, none⟩ = some (.int .i64 x) := h.vs_.cell hg t _ (intC_at hx)
theorem RdS.said {acc' : List Mo} (h : RdS W0 P vv vs c cq rs acc v W) (e : acc = acc') : RdS W0 P vv vs c cq rs acc' v W := e ▸ h
theorem RdS.push (h : RdS W0 P vv vs c cq rs acc v W) {d : RM} {x : Mo} (hd : d.ok x W) (ho : OwnG GoodM 51 4 W' W0.heap.size v' (rs.length + 1) (cellsM rs ++ d.cells)) (hg : W.grownBy W' v.ownBlock) :
    (W'.cell? ⟨P, 3, none⟩ = some v ∧ W'.frozen? ⟨P, 3, none⟩ = false) ∧ RdS W0 P vv vs c cq (rs ++ [d]) (acc ++ [x]) v' (W'.setCell ⟨P, 3, none⟩ v') := by
 obtain ⟨a, cc, hv, _⟩ := h.row.value
 have hblk := h.blk
 rw [hv] at hblk
 have hP := block_past hblk hg (by intro g e; exact h.row.ne h.blk (by decide) g e)
 have hB : Below W0.heap.size W0 W' := below_grownL h.hb hg h.hb.size (fun g e => (h.row.lt g e).2.1)
 have hg2 : W'.grownBy (W'.setCell ⟨P, 3, none⟩ v') (some P) := grownBy_set (grown_refl W' _)
 obtain ⟨_, _, _, c3, _, _, _, f3⟩ := cellsL4 hP
 have hno := poly_noI hP
 have hlen : (rs ++ [d]).length = rs.length + 1 := by simp
 have hne' : ∀ g, v'.ownBlock = some g → g ≠ P := ho.ne hP (by decide)
 refine ⟨⟨by rw [c3, hv], f3⟩, ⟨hB.setCell (p := ⟨P, 3, none⟩) h.pge _, ?_, h.pge, (h.num.pastO h.row hg).pastL hno.2 hg2, ?_, ?_, by rw [hlen, h.len]; simp, fun k d' x' h1 h2 => ?_⟩⟩
 ·simp [World.setCell, Array.getElem?_modify, hP]
 ·refine (h.vs_.of_block fun g e => hg.block g (h.vs_.lt g e).1 fun e2 => ?_).past hg2 (h.vs_.ne hblk (by decide))
  obtain ⟨_, _, cur1, t1⟩ := h.vs_.lt g e
  obtain ⟨_, _, cur2, t2⟩ := h.row.lt g e2.symm
  rw [t1] at t2
  cases t2
 ·rw [hlen, cellsM_app, cellsM_one]
  exact ho.past hg2 hne'
 ·have key : ∀ {d : RM} {x : Mo}, d.ok x W → d.ok x (W'.setCell ⟨P, 3, none⟩ v') := fun h1 => ⟨h1.v, (h1.q.pastO h.row hg).pastL hno.2 hg2⟩
  have hl := h.len
  by_cases hk : k < rs.length
  ·rw [List.getElem?_append_left hk] at h1
   rw [List.getElem?_append_left (by rw [← hl]; exact hk)] at h2
   exact key (h.vals k d' x' h1 h2)
  ·rw [List.getElem?_append_right (by omega)] at h1
   rw [List.getElem?_append_right (by rw [← hl]; omega), ← hl] at h2
   obtain ⟨hz, rfl⟩ : k - rs.length = 0 ∧ d = d' := by
    cases hq : k - rs.length with
    | zero => rw [hq] at h1; exact ⟨rfl, by simpa using h1⟩
    | succ j => rw [hq] at h1; simp at h1
   rw [hz] at h2
   obtain rfl : x = x' := by simpa using h2
   exact key hd
theorem RdS.vne (h : RdS W0 P vv vs c cq rs acc v W) {g : Nat} (hg : vv.ownBlock = some g) : g ≠ P ∧ ∀ j, v.ownBlock = some j → g ≠ j := by
 refine ⟨h.vs_.ne h.blk (by decide) g hg, fun j hj e => ?_⟩
 subst e
 obtain ⟨_, _, c1, t1⟩ := h.vs_.lt g hg
 obtain ⟨_, _, c2, t2⟩ := h.row.lt g hj
 rw [t1] at t2
 cases t2
theorem RdS.ms (h : RdS W0 P vv vs c cq rs acc v W) : ∃ a cp, v = .slice a rs.length cp ∧ PolyAt cq acc c a rs W := by
 obtain ⟨a, cp, hv, _, _, hn, ha⟩ := h.row.value
 refine ⟨a, cp, hv, h.num, ?_, h.len, h.vals⟩
 cases a with
 | none => exact .inl (List.eq_nil_of_length_eq_zero (hn rfl).1)
 | some x =>
  obtain ⟨g, rfl, hg⟩ := ha x rfl
  exact .inr ⟨g, 0, rfl, fun k d hd j u hu => by rw [Nat.zero_add]; exact h.row.cell hg _ u (cellsM_at rs k d hd j u hu)⟩
theorem fin_R {w : World} {R : Nat} {s : Bool} {z1 z2 a : Option Addr} {m1 k1 m2 k2 cp : Nat} (hB0 : Below w.heap.size w W0) (hR : w.heap.size ≤ R) (h3 : W0.heap[R]? = some (.cells #[.bool false, .slice none 0 0, .slice none 0 0, .slice none 0 0] 30 (0, 0)))
    (hb : Below W0.heap.size W0 W) (hp : PolyAt cq acc (s, (z1, m1, k1), (z2, m2, k2)) a rs W) : GotR w cq acc (.returned (.agg #[.bool s, .slice z1 m1 k1, .slice z2 m2 k2, .slice a rs.length cp])) (putL4 W R (.bool s) (.slice z1 m1 k1) (.slice z2 m2 k2) (.slice a rs.length cp)) := by
 have hbw := hB0.trans (hb.mono hB0.size)
 refine ⟨_, _, _, _, _, _, _, a, cp, rs, rfl, Lib.hid ?_, Lib.hid (hp.past (poly_noI (stayL h3 hb)) (putL4_grown _ _ _ _ _ _))⟩
 unfold putL4
 exact (((hbw.setCell (p := ⟨R, 0, none⟩) hR _).setCell (p := ⟨R, 1, none⟩) hR _).setCell (p := ⟨R, 2, none⟩) hR _).setCell (p := ⟨R, 3, none⟩) hR _
end
theorem OwnG.start (W : World) : OwnG GoodI 3 1 (W.alloc (.cells #[] 3)) W.heap.size (.slice (some ⟨W.heap.size, 0, none⟩) 0 0) 0 (intC []) :=
 ⟨rfl, .inr ⟨W.heap.size, 0, rfl, Nat.le_refl _, Nat.le_refl _, by simp [maxLen], #[], heap_alloc_new W _, rfl, rfl, by simp⟩⟩
def R15At (W : World) (q : Rat) (i : Nat × RawR × RawR × RawR × RawR) (W' : World) : Prop :=
 Below W.heap.size W W' ∧ W'.heap[i.1]? = some (.cells #[.bool i.2.2.2.2.1, .slice i.2.2.2.2.2.1.1 i.2.2.2.2.2.1.2.1 i.2.2.2.2.2.1.2.2, .slice i.2.2.2.2.2.2.1 i.2.2.2.2.2.2.2.1 i.2.2.2.2.2.2.2.2] 42 (0, 0)) ∧ VD q i.2.2.2.2 W' ∧ W.heap.size ≤ i.1
theorem set3_block {W : World} {R : Nat} {u0 u1 u2 : Value} {t : TypeId} (h : W.heap[R]? = some (.cells #[u0, u1, u2] t (0, 0))) (s : Bool) (v1 v2 : Value) : (set3 W R s v1 v2).heap[R]? = some (.cells #[.bool s, v1, v2] t (0, 0)) := by
 simp [set3, World.setCell, Array.getElem?_modify, h]
theorem r15_end {W W' : World} {q : Rat} {D : Nat} {r1 r2 r3 : RawR} {s : Bool} {z1 z2 : Option Addr} {m1 k1 m2 k2 : Nat} (hb : Below W.heap.size W W')
    (hD : W'.heap[D]? = some (.cells #[.bool false, .slice none 0 0, .slice none 0 0] 42 (0, 0))) (hd : W.heap.size ≤ D) (hv : VD q (s, (z1, m1, k1), (z2, m2, k2)) W') :
    R15At W q (D, r1, r2, r3, (s, (z1, m1, k1), (z2, m2, k2))) (set3 W' D s (.slice z1 m1 k1) (.slice z2 m2 k2)) :=
 ⟨set3_below hb hd, set3_block hD _ _ _, hv.set3 hD _ _ _, hd⟩
section
variable {ms1 ms2 : List Mo} {i j : Nat} {x y : Mo}
theorem vars_left (hx : ms1[i]? = some x) (hj : ms2.length ≤ j) : vars (ms1.drop i) (ms2.drop j) = x.1 :: vars (ms1.drop (i + 1)) (ms2.drop j) := by
 rw [drop_at hx, List.drop_eq_nil_of_le hj, vars]
theorem vars_right (hi : ms1.length ≤ i) (hy : ms2[j]? = some y) : vars (ms1.drop i) (ms2.drop j) = y.1 :: vars (ms1.drop i) (ms2.drop (j + 1)) := by
 rw [drop_at hy, List.drop_eq_nil_of_le hi, vars]
theorem vars_lt (hx : ms1[i]? = some x) (hy : ms2[j]? = some y) (h : x.1 < y.1) : vars (ms1.drop i) (ms2.drop j) = x.1 :: vars (ms1.drop (i + 1)) (ms2.drop j) := by
 rw [drop_at hx, drop_at hy, vars, if_pos (by omega)]
 unfold past
 rw [if_neg (by omega)]
theorem vars_eq (hx : ms1[i]? = some x) (hy : ms2[j]? = some y) (h : x.1 = y.1) : vars (ms1.drop i) (ms2.drop j) = x.1 :: vars (ms1.drop (i + 1)) (ms2.drop (j + 1)) := by
 rw [drop_at hx, drop_at hy, vars, if_pos (by omega)]
 unfold past
 rw [if_pos h]
theorem vars_gt (hx : ms1[i]? = some x) (hy : ms2[j]? = some y) (h : y.1 < x.1) : vars (ms1.drop i) (ms2.drop j) = y.1 :: vars (ms1.drop i) (ms2.drop (j + 1)) := by
 rw [drop_at hx, drop_at hy, vars, if_neg (by omega)]
theorem vars_end (hi : ms1.length ≤ i) (hj : ms2.length ≤ j) : vars (ms1.drop i) (ms2.drop j) = [] := by
 rw [List.drop_eq_nil_of_le hi, List.drop_eq_nil_of_le hj, vars]
theorem ref_take {f : Int → List Mo} {vs : List Int} {t : Nat} {v : Int} (h : vs[t]? = some v) : (vs.take (t + 1)).flatMap f = (vs.take t).flatMap f ++ f v := by
 rw [List.take_add_one, h]
 simp
end
end Go.Proofs.YtpjeecahaeaajaaGreatDoor
