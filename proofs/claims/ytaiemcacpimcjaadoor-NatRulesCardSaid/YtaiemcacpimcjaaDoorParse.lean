/-
  nat.digits and nat.Parse.
-/
import Derived.Test.YtaiemcacpimcjaaDoorGrow
set_option linter.unusedVariables false
set_option linter.unusedSimpArgs false
namespace Go.Proofs.YtaiemcacpimcjaaDoor
open Go.RowKit Rep

def digB (c : UInt8) : Bool := decide (48 ≤ c.toNat) && decide (c.toNat ≤ 57)
/-- Is a text of digits alone, and of as many as may be? -/
def isDigs (l : List UInt8) : Bool := decide (l.length ≠ 0) && decide (l.length ≤ 10000) && l.all digB
/-- The number of a text of digits. -/
def numTxt (l : List UInt8) : Nat := l.foldl (fun n c => 10 * n + (c.toNat - 48)) 0

theorem cast_beq_no {n : Nat} (h : n ≠ 0) : ((n : Int) == 0) = false := by simp; omega
theorem byte_at {s : ByteArray} {k : Nat} (h : k < s.size) : s.data.toList[k]? = some s[k] := by
  cases s with
  | mk d => 
    have hd : k < d.size := h
    rw [Array.getElem?_toList, Array.getElem?_eq_getElem hd]; rfl
theorem size_list (s : ByteArray) : s.data.toList.length = s.size := by cases s; simp [ByteArray.size]

theorem digs_no {l : List UInt8} {k : Nat} {c : UInt8} (h : l[k]? = some c) (hc : digB c = false) : isDigs l = false := by
  have hm := List.mem_of_getElem? h
  have : l.all digB = false := by
    rw [List.all_eq_false]
    exact ⟨c, hm, by simp [hc]⟩
  unfold isDigs
  rw [this, Bool.and_false]
theorem digs_yes {l : List UInt8} (h0 : l.length ≠ 0) (h1 : l.length ≤ 10000) (h : ∀ (j : Nat) (c : UInt8), l[j]? = some c → digB c = true) : isDigs l = true := by
  unfold isDigs
  rw [decide_eq_true h0, decide_eq_true h1, List.all_eq_true.2 (fun c hc => by obtain ⟨j, hj⟩ := List.getElem?_of_mem hc; exact h j c hj)]
  rfl

set_option maxRecDepth 100000 in
set_option maxHeartbeats 1000000 in
theorem digits_any (s : ByteArray) (w : World) (hs : s.size ≤ maxLen) : Calls Tryd.prog 45 #[.string s] w (Gives (.bool (isDigs s.data.toList)) w) := by
  replace hs : s.size ≤ 9223372036854775807 := by unfold maxLen at hs; omega
  have hsl := size_list s
  by_cases h0 : s.size = 0
  · have e : isDigs s.data.toList = false := by unfold isDigs; rw [hsl, h0]; rfl
    rw [e]
    clear e hsl
    have hz : ((s.size : Int) == 0) = true := by rw [h0]; rfl
    go_enter Tryd.func45, Tryd.ntmps45
    go_wp2_with fail
    go_ret
    exact Gives.mk' rfl
  · have hz : ((s.size : Int) == 0) = false := cast_beq_no h0
    by_cases h1 : 10000 < s.size
    · have e : isDigs s.data.toList = false := by unfold isDigs; rw [hsl, decide_eq_false (p := s.size ≤ 10000) (by omega)]; simp
      rw [e]
      clear e hsl
      have h1' : (10000 : Int) < (s.size : Int) := by omega
      go_enter Tryd.func45, Tryd.ntmps45
      go_wp2_with fail
      go_ret
      exact Gives.mk' rfl
    · have h1' : ¬ (10000 : Int) < (s.size : Int) := by omega
      have HSL := Lib.hid hsl
      clear hsl
      go_enter Tryd.func45, Tryd.ntmps45
      go_wp2_with fail
      go_loop [14] (fun i => ∃ k : Nat, k ≤ s.size ∧ i = .int .i64 k ∧ ∀ j c, j < k → s.data.toList[j]? = some c → digB c = true) (fun i => s.size - (intOf i).toNat)
      case atStart => exact ⟨0, Nat.zero_le _, rfl, fun j c h => by omega⟩
      case round =>
        obtain ⟨k, hk, rfl, he⟩ := hrel
        have HE := Lib.hid he
        clear he
        by_cases hlt : k < s.size
        · have HB := Lib.hid (byte_at hlt)
          have HL : Hid (s[k].toNat < 48 → digB s[k] = false) := fun h => by unfold digB; rw [decide_eq_false (by omega)]; rfl
          have HH : Hid (57 < s[k].toNat → digB s[k] = false) := fun h => by unfold digB; rw [decide_eq_false (p := s[k].toNat ≤ 57) (by omega), Bool.and_false]
          have HM : Hid (¬ s[k].toNat < 48 → ¬ 57 < s[k].toNat → digB s[k] = true) := fun h h' => by unfold digB; rw [decide_eq_true (by omega), decide_eq_true (by omega)]; rfl
          by_cases h48 : s[k].toNat < 48
          · have h48' : (s[k].toNat : Int) < 48 := by omega
            go_wp2_with fail
            go_ret
            exact Gives.mk' (by rw [digs_no HB.out (HL.out h48)]; rfl)
          · have h48' : ¬ (s[k].toNat : Int) < 48 := by omega
            by_cases h57 : 57 < s[k].toNat
            · have h57' : (57 : Int) < (s[k].toNat : Int) := by omega
              go_wp2_with fail
              go_ret
              exact Gives.mk' (by rw [digs_no HB.out (HH.out h57)]; rfl)
            · have h57' : ¬ (57 : Int) < (s[k].toNat : Int) := by omega
              go_wp2_with fail
              go_round
              case rel =>
                refine ⟨k + 1, by omega, by go_num, fun j c hj hc => ?_⟩
                rcases Nat.lt_or_ge j k with h | h
                · exact HE.out j c h hc
                · obtain rfl : j = k := by omega
                  have := HB.out.symm.trans hc
                  cases this
                  exact HM.out h48 h57
              case measure => simp [intOf]; omega
        · obtain rfl : k = s.size := by omega
          go_wp2_with fail
          go_ret
          exact Gives.mk' (by rw [digs_yes (by rw [HSL.out]; exact h0) (by rw [HSL.out]; omega) (fun j c hj => HE.out j c (by rw [← HSL.out]; exact (List.getElem?_eq_some_iff.1 hj).1) hj)]; rfl)

theorem numTxt_snoc (l : List UInt8) (c : UInt8) : numTxt (l ++ [c]) = 10 * numTxt l + (c.toNat - 48) := by unfold numTxt; rw [List.foldl_append]; rfl
theorem foldl_acc (l : List UInt8) : ∀ acc : Nat, l.foldl (fun n c => 10 * n + (c.toNat - 48)) acc = 10 ^ l.length * acc + numTxt l := by
  induction l with
  | nil => intro acc; simp [numTxt]
  | cons c l ih =>
    intro acc
    have h : numTxt (c :: l) = 10 ^ l.length * (10 * 0 + (c.toNat - 48)) + numTxt l := by unfold numTxt; rw [List.foldl_cons]; exact ih _
    rw [List.foldl_cons, ih, h, List.length_cons, Nat.pow_succ, Nat.mul_add, Nat.mul_add]
    simp only [Nat.mul_zero, Nat.zero_add]
    have : 10 ^ l.length * (10 * acc) = 10 ^ l.length * 10 * acc := by rw [Nat.mul_assoc]
    omega
theorem numTxt_append (l m : List UInt8) : numTxt (l ++ m) = 10 ^ m.length * numTxt l + numTxt m := by
  conv => lhs; unfold numTxt
  rw [List.foldl_append]
  exact foldl_acc m _
theorem numTxt_lt {l : List UInt8} (h : l.all digB = true) : numTxt l < 10 ^ l.length := by
  induction l with
  | nil => simp [numTxt]
  | cons c l ih =>
    simp only [List.all_cons, Bool.and_eq_true] at h
    have h1 := ih h.2
    have h2 : numTxt (c :: l) = 10 ^ l.length * (c.toNat - 48) + numTxt l := by
      have := foldl_acc l (10 * 0 + (c.toNat - 48))
      unfold numTxt at this ⊢
      rw [List.foldl_cons, this, Nat.mul_zero, Nat.zero_add]
    have h3 : c.toNat - 48 ≤ 9 := by
      have := h.1
      unfold digB at this
      simp at this
      omega
    have h4 : 10 ^ l.length * (c.toNat - 48) ≤ 10 ^ l.length * 9 := Nat.mul_le_mul_left _ h3
    rw [h2, List.length_cons, Nat.pow_succ]
    omega

theorem parseM_ok : ∀ (l : List UInt8) (acc : Nat), l.all digB = true → 10 ^ l.length * acc + numTxt l ≤ 4294967295 → Lib.parseUintM 4294967295 acc l = .ok (10 ^ l.length * acc + numTxt l) := by
  intro l
  induction l with
  | nil => intro acc _ _; simp [Lib.parseUintM, numTxt]
  | cons c l ih =>
    intro acc h hle
    simp only [List.all_cons, Bool.and_eq_true] at h
    have hc := h.1
    unfold digB at hc
    simp only [Bool.and_eq_true, decide_eq_true_eq] at hc
    have h2 : numTxt (c :: l) = 10 ^ l.length * (c.toNat - 48) + numTxt l := by
      have := foldl_acc l (10 * 0 + (c.toNat - 48))
      unfold numTxt at this ⊢
      rw [List.foldl_cons, this, Nat.mul_zero, Nat.zero_add]
    have h5 : 10 ^ (c :: l).length * acc + numTxt (c :: l) = 10 ^ l.length * (acc * 10 + (c.toNat - 48)) + numTxt l := by
      rw [h2, List.length_cons, Nat.pow_succ, Nat.mul_add]
      have : 10 ^ l.length * 10 * acc = 10 ^ l.length * (acc * 10) := by rw [Nat.mul_assoc, Nat.mul_comm 10 acc]
      omega
    rw [h5] at hle ⊢
    have hp : 1 * (acc * 10 + (c.toNat - 48)) ≤ 10 ^ l.length * (acc * 10 + (c.toNat - 48)) := Nat.mul_le_mul_right _ (Nat.pow_pos (by omega))
    rw [Lib.parseUintM, if_pos hc, if_neg (by omega), if_neg (by omega)]
    exact ih _ h.2 hle
theorem parse_group {l : List UInt8} (h : l.all digB = true) (h0 : l ≠ []) (h9 : l.length ≤ 9) : Lib.parseUintB 32 l = .ok (numTxt l) := by
  unfold Lib.parseUintB
  rw [if_neg h0]
  have h1 := numTxt_lt h
  have h2 : 10 ^ l.length ≤ 10 ^ 9 := Nat.pow_le_pow_right (by omega) h9
  have := parseM_ok l 0 h (by omega)
  rw [Nat.mul_zero, Nat.zero_add] at this
  exact this

/-- What Parse gives, and how it leaves the bench. -/
def GivesParse (b m : Nat) (o : Bool) (l : List UInt8) (w : World) (e : Ending) (w' : World) : Prop :=
  if (!o && isDigs l) = true then
    (if (L (numTxt l)).length ≤ m then ∃ a c, e = .returned (.tuple #[.slice a (L (numTxt l)).length c, .bool true]) ∧ NumAt w' a c (numTxt l) ∧ Bench w' b m o ∧ Below w.heap.size w w'
      else e = .returned (.tuple #[.slice none 0 0, .bool false]) ∧ Bench w' b m true ∧ w.grownBy w' (some b))
  else e = .returned (.tuple #[.slice none 0 0, .bool false]) ∧ w' = w

/-- What is read already: p; t is left. -/
def ParseIn (w : World) (b m : Nat) (s t : ByteArray) (xv : Value) (wr : World) : Prop :=
  ∃ (p : List UInt8) (a : Option Addr) (c : Nat), s.data.toList = p ++ t.data.toList ∧ xv = .slice a (L (numTxt p)).length c ∧ (numTxt p = 0 ∨ t.size % 9 = 0) ∧ (L (numTxt p)).length ≤ m ∧ Own w.heap.size wr a c (L (numTxt p)) ∧ Below w.heap.size w wr ∧ Bench wr b m false

theorem L_txt_len {l : List UInt8} (h : l.all digB = true) : (L (numTxt l)).length ≤ l.length :=
  (L_len _ _).2 (Nat.lt_of_lt_of_le (numTxt_lt h) (Nat.pow_le_pow_left (by omega) _))
theorem extract_take (t : ByteArray) (n : Nat) (h : n ≤ t.size) : (t.extract 0 n).data.toList = t.data.toList.take n := by
  rw [ByteArray.data_extract]; simp
theorem extract_drop (t : ByteArray) (n : Nat) (h : n ≤ t.size) : (t.extract n t.size).data.toList = t.data.toList.drop n := by
  rw [ByteArray.data_extract]
  have := size_list t
  rw [Array.toList_extract, List.extract_eq_take_drop]
  exact List.take_of_length_le (by rw [List.length_drop]; omega)
theorem below_bytes (w : World) (e : TypeId) (s : ByteArray) : Below w.heap.size w (Lib.bytesWorld w e s) :=
  ⟨rfl, rfl, rfl, by rw [Lib.bytesWorld_size]; omega, fun k hk => Lib.bytesWorld_at_old w e s k hk⟩
/-- A group is read. -/
theorem parse_step {s t : ByteArray} {p : List UInt8} {n0 : Nat} (hd : isDigs s.data.toList = true) (hp : s.data.toList = p ++ t.data.toList) (h9 : numTxt p = 0 ∨ t.size % 9 = 0) (ht : 0 < t.size) (hn : n0 = (t.size - 1) % 9) :
    ∃ u : Nat, u < 1000000000 ∧ Lib.parseUintB 32 (t.extract 0 (n0 + 1)).data.toList = .ok u ∧ s.data.toList = (p ++ t.data.toList.take (n0 + 1)) ++ (t.extract (n0 + 1) t.size).data.toList ∧ numTxt (p ++ t.data.toList.take (n0 + 1)) = 1000000000 * numTxt p + u ∧
      (t.extract (n0 + 1) t.size).size % 9 = 0 ∧ (t.extract (n0 + 1) t.size).size < t.size ∧ (L (numTxt p)).length ≤ 10000 ∧ (L (1000000000 * numTxt p + u)).length ≤ (L (numTxt s.data.toList)).length ∧ (t.extract 0 (n0 + 1)).size ≤ 9 := by
  have hsl := size_list t
  have hle : n0 + 1 ≤ t.size := by have := Nat.mod_le (t.size - 1) 9; omega
  have h9' : n0 < 9 := by rw [hn]; exact Nat.mod_lt _ (by omega)
  have hall : s.data.toList.all digB = true := by unfold isDigs at hd; simp only [Bool.and_eq_true] at hd; exact hd.2
  have hlen : s.data.toList.length ≤ 10000 := by unfold isDigs at hd; simp only [Bool.and_eq_true, decide_eq_true_eq] at hd; exact hd.1.2
  have hpa : p.all digB = true := by rw [hp, List.all_append, Bool.and_eq_true] at hall; exact hall.1
  have hta : t.data.toList.all digB = true := by rw [hp, List.all_append, Bool.and_eq_true] at hall; exact hall.2
  have hga : (t.data.toList.take (n0 + 1)).all digB = true := List.all_eq_true.2 fun x hx => List.all_eq_true.1 hta x (List.mem_of_mem_take hx)
  have hgl : (t.data.toList.take (n0 + 1)).length = n0 + 1 := by rw [List.length_take]; omega
  have hpl : p.length ≤ 10000 := by rw [hp, List.length_append] at hlen; omega
  have he1 := extract_take t (n0 + 1) hle
  have he2 := extract_drop t (n0 + 1) hle
  have hes : (t.extract (n0 + 1) t.size).size = t.size - (n0 + 1) := by rw [← size_list, he2, List.length_drop, hsl]
  have heq : s.data.toList = (p ++ t.data.toList.take (n0 + 1)) ++ (t.extract (n0 + 1) t.size).data.toList := by rw [he2, List.append_assoc, List.take_append_drop]; exact hp
  have hu := numTxt_lt hga
  rw [hgl] at hu
  have hu9 : 10 ^ (n0 + 1) ≤ 10 ^ 9 := Nat.pow_le_pow_right (by omega) (by omega)
  have hnum : numTxt (p ++ t.data.toList.take (n0 + 1)) = 1000000000 * numTxt p + numTxt (t.data.toList.take (n0 + 1)) := by
    rw [numTxt_append, hgl]
    rcases h9 with h0 | h0
    · rw [h0, Nat.mul_zero, Nat.mul_zero]
    · rw [show n0 + 1 = 9 from by omega]
  refine ⟨numTxt (t.data.toList.take (n0 + 1)), by omega, by rw [he1]; exact parse_group hga (by intro e; rw [e] at hgl; simp at hgl) (by omega), heq, hnum, by omega, by omega, Nat.le_trans (L_txt_len hpa) hpl, ?_, ?_⟩
  · rw [← hnum]
    refine rep_len_mono (by omega) ?_
    conv => rhs; rw [heq, numTxt_append]
    have : 1 * numTxt (p ++ t.data.toList.take (n0 + 1)) ≤ 10 ^ (t.extract (n0 + 1) t.size).data.toList.length * numTxt (p ++ t.data.toList.take (n0 + 1)) := Nat.mul_le_mul_right _ (Nat.pow_pos (by omega))
    omega
  · rw [← size_list, he1, hgl]; omega

theorem GivesParse.great {b m : Nat} {l : List UInt8} {w w' : World} (hd : isDigs l = true) (h : m < (L (numTxt l)).length) (hb : Bench w' b m true) (hg : w.grownBy w' (some b)) :
    GivesParse b m false l w (.returned (.tuple #[.slice none 0 0, .bool false])) w' := by
  unfold GivesParse
  rw [if_pos (by rw [hd]; rfl), if_neg (by omega)]
  exact ⟨rfl, hb, hg⟩
theorem GivesParse.fits {b m : Nat} {l : List UInt8} {w w' : World} {a : Option Addr} {c : Nat} (hd : isDigs l = true) (h : (L (numTxt l)).length ≤ m) (ho : Own w.heap.size w' a c (L (numTxt l))) (hb : Below w.heap.size w w') (hbe : Bench w' b m false) :
    GivesParse b m false l w (.returned (.tuple #[.slice a (L (numTxt l)).length c, .bool true])) w' := by
  unfold GivesParse
  rw [if_pos (by rw [hd]; rfl), if_pos h]
  exact ⟨a, c, rfl, ho.num, hbe, hb⟩

set_option maxRecDepth 100000 in
set_option maxHeartbeats 1000000 in
theorem Parse_any (b m : Nat) (s : ByteArray) (w : World) (o : Bool) (h : Bench w b m o) (hs : s.size ≤ maxLen) (hm : m ≤ maxLen) :
    Calls Tryd.prog 29 #[.pointer (some ⟨b, 0, none⟩), .string s] w (GivesParse b m o s.data.toList w) := by
  have h1 := h.c1
  have HB := Lib.hid h
  clear h
  cases o with
  | true =>
    go_enter Tryd.func29, Tryd.ntmps29
    go_wp2_with fail
    go_ret2
    exact ⟨rfl, rfl⟩
  | false =>
    cases hd : isDigs s.data.toList with
    | false =>
      go_enter Tryd.func29, Tryd.ntmps29
      go_wp2_with fail
      refine (digits_any s w hs).mono ?_
      rintro e w' ⟨rfl, rfl⟩
      rw [hd]
      go_wp2_with fail
      go_ret2
      unfold GivesParse
      rw [hd]
      exact ⟨rfl, rfl⟩
    | true =>
      go_enter Tryd.func29, Tryd.ntmps29
      go_wp2_with fail
      refine (digits_any s w hs).mono ?_
      rintro e w' ⟨rfl, rfl⟩
      rw [hd]
      go_wp2_with fail
      go_loopw [1, 6] (fun sv xv wr => ∃ t : ByteArray, sv = .string t ∧ ParseIn w b m s t xv wr) (fun sv _ _ => match sv with | .string t => t.size | _ => 0)
      case atStart => exact ⟨s, rfl, [], none, 0, rfl, rfl, .inl rfl, by simp [numTxt, L_zero], Own.nil _ _, Below.refl _ _, HB.out⟩
      case round =>
        obtain ⟨t, rfl, p, a, c, hp, rfl, h9, hl, ho, hb, hbe⟩ := hrel
        by_cases ht : 0 < t.size
        · have ht' : (0 : Int) < (t.size : Int) := by omega
          have c0 := hbe.c0
          have c1 := hbe.c1
          have f1 := hbe.free 1
          have HO := Lib.hid (And.intro ho (And.intro hb hbe))
          have HP := Lib.hid hp
          have htb : (t.size : Int) ≤ 10000 := by
            have h1 := size_list t
            have h2 := congrArg List.length hp
            rw [List.length_append, h1] at h2
            have h3 := hd
            unfold isDigs at h3
            simp only [Bool.and_eq_true, decide_eq_true_eq] at h3
            omega
          obtain ⟨n0, hn0⟩ : ∃ n0 : Nat, n0 = (t.size - 1) % 9 := ⟨_, rfl⟩
          obtain ⟨u, hu, hpu, heq, hnum, hs9, hslt, hl4, hmono, hgs⟩ := parse_step hd hp h9 ht hn0
          have hmod : ((t.size : Int) - 1).tmod 9 = (n0 : Int) := by rw [Int.tmod_eq_emod_of_nonneg (by omega)]; omega
          have hn9 : n0 < 9 := by rw [hn0]; exact Nat.mod_lt _ (by omega)
          have hnt : n0 + 1 ≤ t.size := by have := Nat.mod_le (t.size - 1) 9; omega
          have HQ := Lib.hid (And.intro heq (And.intro hnum hs9))
          have HL := Lib.hid hmono
          have HP := Lib.hid hpu
          clear ho hb hbe hp h1 h9 hn0 heq hnum hs9 hpu hmono
          go_wp2_with fail
          refine (Tryd.strconv_ParseUint_10_at32_ok _ (by omega) u HP.out wr).mono ?_
          rintro e w1 ⟨rfl, hw1⟩
          have hb1 : Below wr.heap.size wr w1 := by
            rcases hw1 with rfl | rfl
            · exact Below.refl _ _
            · exact below_bytes _ _ _
          have hB1 : Below w.heap.size w w1 := HO.out.2.1.trans (hb1.mono HO.out.2.1.size)
          have H1 := Lib.hid (And.intro (HO.out.1.kept hb1) (And.intro hB1 (HO.out.2.2.kept hb1)))
          clear hw1 hb1 hB1 HO c0 c1 f1
          go_wp2_with fail
          refine (grow_any w.heap.size 1000000000 u a c (numTxt p) w1 H1.out.1 (by omega) hu H1.out.2.1.size (by omega)).mono ?_
          rintro e w2 ⟨a', c', rfl, ho2, hg2⟩
          have hB2 : Below w.heap.size w w2 := H1.out.2.1.grown hg2 H1.out.2.1.size (fun k hk => by
            obtain ⟨_, ⟨rfl, _⟩ | ⟨g, rfl, hg, hr⟩⟩ := H1.out.1
            · cases hk
            · cases hk; exact hg)
          have hbe2 : Bench w2 b m false := HB.out.kept hB2
          have c0 := hbe2.c0
          have c1 := hbe2.c1
          have f1 := hbe2.free 1
          have H2 := Lib.hid (And.intro ho2 (And.intro hB2 hbe2))
          clear ho2 hg2 hB2 hbe2 H1 HP
          generalize hN : 1000000000 * numTxt p + u = N at *
          clear hN
          by_cases hgt : m < (L N).length
          · have hgt' : (m : Int) < ((L N).length : Int) := by omega
            go_wp2_with fail
            go_ret2
            refine GivesParse.great hd (by have := HL.out; omega) (H2.out.2.2.set true) ?_
            have hb := H2.out.2.1
            exact ⟨hb.os, hb.tape, hb.output, by have := hb.size; simpa [World.setCell] using this, fun k hk hne => by
              rw [Below.heap_setCell _ _ _ _ (by simpa using hne)]; exact hb.block k hk⟩
          · have hgt' : ¬ (m : Int) < ((L N).length : Int) := by omega
            go_wp2_with fail
            go_roundw
            case rel =>
              have hq := HQ.out
              rw [← hq.2.1] at H2 ⊢
              exact ⟨_, rfl, _, a', c', hq.1, rfl, .inr hq.2.2, by rw [hq.2.1]; omega, H2.out.1, H2.out.2⟩
            case measure => exact hslt
        · have ht' : ¬ (0 : Int) < (t.size : Int) := by omega
          have e : s.data.toList = p := by
            have h := size_list t
            have : t.data.toList = [] := List.length_eq_zero_iff.1 (by omega)
            rw [hp, this, List.append_nil]
          have HF := Lib.hid (And.intro hl (And.intro ho (And.intro hb hbe)))
          clear ho hb hbe hp h1 h9
          go_wp2_with fail
          go_ret2
          rw [← e] at HF ⊢
          exact GivesParse.fits hd HF.out.1 HF.out.2.1 HF.out.2.2.1 HF.out.2.2.2
end Go.Proofs.YtaiemcacpimcjaaDoor
