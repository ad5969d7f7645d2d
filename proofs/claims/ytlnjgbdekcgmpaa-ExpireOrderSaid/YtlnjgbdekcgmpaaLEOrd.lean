/- ExpireOrder: in which order ids were set does not matter. -/
import Derived.Test.YtlnjgbdekcgmpaaEx
import Derived.Deep.LoopGhost
namespace Go.Proofs.Ytlnjgbdekcgmpaa
open Go.RowKit

/-- The ids set from the place k on, around the end. -/
def rot (l : List Int) (n k : Nat) : Nat → List En
  | 0 => []
  | i + 1 => set (rot l n k i) (((i + k) % n : Nat) : Int) (l.getD ((i + k) % n) 0)
theorem mem_rot {l : List Int} {n k i : Nat} {e : En} : e ∈ rot l n k i ↔ ∃ j : Nat, j < i ∧ e = ((((j + k) % n : Nat) : Int), l.getD ((j + k) % n) 0) := by
  induction i with
  | zero => simp [rot]
  | succ i ih =>
    unfold rot
    rw [mem_set, ih]
    constructor
    · rintro (rfl | ⟨⟨j, h1, rfl⟩, h2⟩)
      · exact ⟨i, by omega, rfl⟩
      · exact ⟨j, by omega, rfl⟩
    · rintro ⟨j, h1, rfl⟩
      by_cases e : (j + k) % n = (i + k) % n
      · left; rw [e]
      · right
        refine ⟨⟨j, ?_, rfl⟩, ?_⟩
        · have : j ≠ i := by rintro rfl; exact e rfl
          omega
        · simp only; omega
theorem rot_srt (l : List Int) (n k i : Nat) : Srt (rot l n k i) := by
  induction i with
  | zero => exact List.Pairwise.nil
  | succ i ih => exact ih.set _ _
theorem rot_nod (l : List Int) (n k i : Nat) : Nod (rot l n k i) := by
  induction i with
  | zero => exact List.Pairwise.nil
  | succ i ih => exact ih.set _ _
theorem rot_len (l : List Int) (n k i : Nat) : (rot l n k i).length ≤ i := by
  induction i with
  | zero => exact Nat.le_refl _
  | succ i ih =>
    unfold rot set
    rw [ins_length]
    have := del_le (rot l n k i) (((i + k) % n : Nat) : Int)
    omega
theorem rot_all {l : List Int} {n : Nat} (k : Nat) (hn : 0 < n) : rot l n k n = fl l n := by
  refine srt_ext (rot_srt _ _ _ _) (fl_srt _ _) fun e => ?_
  rw [mem_rot, mem_fl]
  constructor
  · rintro ⟨j, _, rfl⟩
    exact ⟨_, Nat.mod_lt _ hn, rfl⟩
  · rintro ⟨j, hj, rfl⟩
    have hk := Nat.mod_lt k hn
    have e : ((j + (n - k % n)) % n + k) % n = j := by
      have h1 : j + (n - k % n) + k = j + n * (k / n + 1) := by
        have := Nat.div_add_mod k n
        rw [Nat.mul_add, Nat.mul_one]; omega
      rw [Nat.mod_add_mod, h1, Nat.add_mul_mod_self_left, Nat.mod_eq_of_lt hj]
    exact ⟨_, Nat.mod_lt _ hn, by rw [e]⟩

set_option maxHeartbeats 4000000 in
theorem eOrd_walk (a : Option Addr) (n c : Nat) (l : List Int) (turn : Int) (w : World) (h : U8 w a n l) (hc : n ≤ c) (hcm : c ≤ 9223372036854775807) (ht0 : 0 ≤ turn) (ht1 : turn ≤ 255) :
    Calls Try.prog 8 #[.slice a n c, .int .u8 turn] w fun e w' => e = .returned (.bool true) ∧ Below w.heap.size w w' := by
  have H := Lib.hid h
  obtain ⟨k, rfl⟩ : ∃ k : Nat, turn = (k : Int) := ⟨turn.toNat, by omega⟩
  by_cases hn : 0 < n ∧ n ≤ 60
  · obtain ⟨hn0, hn⟩ := hn
    have F1 : Hid (∀ W, Below w.heap.size w W → Calls Try.prog 29 #[.slice a n c] W fun e w' => ∃ b, e = .returned (.pointer (some ⟨b, 0, none⟩)) ∧ Own W w' b (fl l n)) := fun W hB => filled_ok w a n c l W hB (h.below hB) hc hcm hn
    have N1 : Hid (∀ W b, Own w W b (fl l n) → Calls Try.prog 12 #[] W fun e w' => ∃ c, e = .returned (.pointer (some ⟨c, 0, none⟩)) ∧ Two w w' b c (fl l n) (rot l n k 0)) := fun W b h => (own_made W W (Below.refl _ _)).mono fun e w' ⟨c, h1, h2⟩ => ⟨c, h1, Two.make h h2⟩
    have S1 : Hid (∀ W b c i (x : Int), i < n → l[(i + k) % n]? = some x → 0 ≤ x → x ≤ 255 → Two w W b c (fl l n) (rot l n k i) → Calls Try.prog 14 #[.pointer (some ⟨c, 0, none⟩), .int .i64 (((i + k) % n : Nat) : Int), .int .i64 x] W fun e w' => e = .returned (.int .i64 0) ∧ Two w w' b c (fl l n) (rot l n k (i + 1))) := fun W b c i x hi hx h0 h1 h => by
      have hm := Nat.mod_lt (i + k) hn0
      have := two_set h.swap (i := (((i + k) % n : Nat) : Int)) ⟨by omega, by omega⟩ x
      have hl := rot_len l n k i
      rw [setE_ok h0 (by omega) (by omega), setL_ok h0 (by omega) (by omega)] at this
      have e : l.getD ((i + k) % n) 0 = x := by rw [List.getD_eq_getElem?_getD, hx]; rfl
      unfold rot
      rw [e]
      exact this.mono fun e w' ⟨h1, h2⟩ => ⟨h1, h2.swap⟩
    have RA : Hid (rot l n k n = fl l n) := rot_all k hn0
    have FL : Hid ((fl l n).length ≤ 60 ∧ Srt (fl l n) ∧ Nod (fl l n)) := ⟨by rw [fl_len]; exact hn, fl_srt _ _, fl_nod _ _⟩
    generalize fl l n = L at *
    have hb1 : decide ((60 : Int) < (n : Int)) = false := decide_eq_false (by omega)
    have hb2 : ((n : Int) == 0) = false := beq_eq_false_iff_ne.2 (by omega)
    clear h
    go_enter Try.func8, Try.ntmps8
    go_wp2_with (first
      | (go_at_call 29; (with_reducible refine (F1.out _ (Below.refl _ _)).mono ?_); rintro e w1 ⟨b, rfl, ho⟩; have HO := Lib.hid ho; clear ho)
      | (go_at_call 12; (with_reducible refine (N1.out _ _ HO.out).mono ?_); rintro e w2 ⟨q, rfl, ht⟩; have HT := Lib.hid ht; clear ht HO))
    go_loopw [7] (fun s wr => ∃ i : Nat, i ≤ n ∧ s = .int .i64 i ∧ Hid (Two w wr b q L (rot l n k i))) (fun s _ => n - (intOf s).toNat)
    case atStart => exact ⟨0, by omega, rfl, HT.out⟩
    case round =>
      obtain ⟨i, hi, rfl, HT2⟩ := hrel
      by_cases hlt : i < n
      · have hm := Nat.mod_lt (i + k) hn0
        obtain ⟨g, off, x, rfl, hg, hcell, hx, hx0, hx1⟩ := (H.out.below HT2.out.bel).cell hm
        have HX := Lib.hid hx
        obtain ⟨m, hmm⟩ : ∃ m, (i + k) % n = m := ⟨_, rfl⟩
        have hmod : ((i : Int) + (k : Int)) % (n : Int) = (m : Int) := by rw [← hmm]; simp
        have htm : ((i : Int) + (k : Int)).tmod (n : Int) = (m : Int) := by rw [Int.tmod_eq_emod_of_nonneg (by omega)]; exact hmod
        rw [hmm] at hm hcell
        have HMM := Lib.hid hmm
        clear hx hg hmm
        go_wp2_with (go_at_call 14; rw [← HMM.out]; refine (S1.out _ _ _ i x hlt HX.out hx0 hx1 HT2.out).mono ?_; rintro e w2 ⟨rfl, ht⟩; have HT3 := Lib.hid ht; clear ht)
        go_roundw
        case rel => exact ⟨i + 1, by omega, by go_num, HT3.out⟩
        case measure => simp [intOf]; omega
      · obtain rfl : i = n := by omega
        have HT3 : Hid (Two w wr b q L L) := by have := HT2.out; rw [RA.out] at this; exact this
        have X1 : Hid (∀ W b c M, Two w W b c M M → M ≠ [] → ∃ x t R, M = (x, t) :: R ∧ tm M x = some t ∧ del M x = R ∧ I64 x) := fun W b c M h hM => by
          have hs := h.one.srt
          have hd := h.one.nod
          have hi := h.one.i64
          rcases M with _ | ⟨⟨x, t⟩, R⟩
          · exact absurd rfl hM
          · refine ⟨x, t, R, rfl, (tm_some hd).2 (by simp), ?_, hi (x, t) (by simp)⟩
            have := del_drop hd (j := 0) (x := (x, t)) rfl
            simpa using this
        clear HT HT2 S1 N1 F1
        go_wp2
        go_loopg [9] L.length (fun kx s9 wr => ∃ M : List En, M.length ≤ kx ∧ M.length ≤ 60 ∧ Hid (Two w wr b q M M))
        case atStart => exact ⟨L, Nat.le_refl _, FL.out.1, HT3.out⟩
        case round =>
          obtain ⟨M, hMk, hM60, HM⟩ := hrel
          by_cases hM : M = []
          · subst hM
            have L0 := Lib.hid (two_len HM.out)
            have L1 := Lib.hid (two_len HM.out.swap)
            have X0 : Hid (∀ W, Two w W b q [] [] → Calls Try.prog 23 #[.pointer (some ⟨q, 0, none⟩)] W fun e w' => e = .returned (.tuple #[.int .i64 0, .int .i64 0, .bool false]) ∧ Two w w' b q [] []) := fun W h => (two_next h.swap).mono fun e w' ⟨h1, h2⟩ => ⟨h1, h2.swap⟩
            have L2 : Hid (∀ W, Two w W b q [] [] → Calls Try.prog 27 #[.pointer (some ⟨q, 0, none⟩)] W fun e w' => e = .returned (.int .i64 0) ∧ W = w') := fun W h => two_len h.swap
            have L0' : Hid (∀ W, Two w W b q [] [] → Calls Try.prog 27 #[.pointer (some ⟨b, 0, none⟩)] W fun e w' => e = .returned (.int .i64 0) ∧ W = w') := fun W h => two_len h
            clear L0 L1 X1 HT3 FL RA
            go_wp2_with (first
              | (go_at_call 27; (with_reducible refine (L0'.out _ HM.out).mono ?_); rintro e w4 ⟨rfl, rfl⟩)
              | (go_at_call 23; (with_reducible refine (X0.out _ HM.out).mono ?_); rintro e w5 ⟨rfl, ht⟩; have HM := Lib.hid ht; clear ht)
              | (go_at_call 27; (with_reducible refine (L2.out _ HM.out).mono ?_); rintro e w6 ⟨rfl, rfl⟩)
              | (go_at_call 11; refine (works_ok _).mono ?_; rintro e w10 ⟨rfl, hb⟩; have HW := Lib.hid (HM.out.bel.trans (hb.mono HM.out.bel.size)); clear hb))
            go_ret
            exact ⟨rfl, HW.out⟩
          · obtain ⟨x, t, R, rfl, htm, hdel, hix⟩ := X1.out _ _ _ _ HM.out hM
            have hlen : ((x, t) :: R).length = R.length + 1 := rfl
            rw [hlen] at hMk hM60
            have L0 := Lib.hid (two_len HM.out)
            rw [hlen] at L0
            have A1 : Hid (∀ W, Two w W b q ((x, t) :: R) ((x, t) :: R) → Calls Try.prog 23 #[.pointer (some ⟨b, 0, none⟩)] W fun e w' => e = .returned (.tuple #[.int .i64 x, .int .i64 t, .bool true]) ∧ Two w w' b q ((x, t) :: R) ((x, t) :: R)) := fun W h => two_next h
            have A2 : Hid (∀ W, Two w W b q ((x, t) :: R) ((x, t) :: R) → Calls Try.prog 23 #[.pointer (some ⟨q, 0, none⟩)] W fun e w' => e = .returned (.tuple #[.int .i64 x, .int .i64 t, .bool true]) ∧ Two w w' b q ((x, t) :: R) ((x, t) :: R)) := fun W h => (two_next h.swap).mono fun e w' ⟨h1, h2⟩ => ⟨h1, h2.swap⟩
            have B1 : Hid (∀ W, Two w W b q ((x, t) :: R) ((x, t) :: R) → Calls Try.prog 16 #[.pointer (some ⟨b, 0, none⟩), .int .i64 x] W fun e w' => e = .returned (.bool true) ∧ Two w w' b q R ((x, t) :: R)) := fun W h => by
              have := two_drop h hix
              rw [htm, hdel] at this
              exact this
            have B2 : Hid (∀ W, Two w W b q R ((x, t) :: R) → Calls Try.prog 16 #[.pointer (some ⟨q, 0, none⟩), .int .i64 x] W fun e w' => e = .returned (.bool true) ∧ Two w w' b q R R) := fun W h => by
              have := two_drop h.swap hix
              rw [htm, hdel] at this
              exact this.mono fun e w' ⟨h1, h2⟩ => ⟨h1, h2.swap⟩
            have hxx : (x != x) = false := by simp
            have htt : (t != t) = false := by simp
            obtain ⟨rl, hrl⟩ : ∃ rl, R.length = rl := ⟨_, rfl⟩
            rw [hrl] at hMk hM60 L0
            have HRL := Lib.hid hrl
            clear X1 HT3 FL RA htm hdel hix hM hlen hrl
            go_wp2_with (first
              | (go_at_call 27; (with_reducible refine L0.out.mono ?_); rintro e w4 ⟨rfl, rfl⟩)
              | (go_at_call 23; (with_reducible refine (A1.out _ HM.out).mono ?_); rintro e w5 ⟨rfl, ht⟩; have HM := Lib.hid ht; clear ht A1)
              | (go_at_call 23; (with_reducible refine (A2.out _ HM.out).mono ?_); rintro e w6 ⟨rfl, ht⟩; have HM := Lib.hid ht; clear ht)
              | (go_at_call 16; (with_reducible refine (B1.out _ HM.out).mono ?_); rintro e w7 ⟨rfl, ht⟩; have HM := Lib.hid ht; clear ht)
              | (go_at_call 16; (with_reducible refine (B2.out _ HM.out).mono ?_); rintro e w8 ⟨rfl, ht⟩; have HM := Lib.hid ht; clear ht))
            go_roundg rl
            case measure => omega
            case rel => exact ⟨R, by rw [HRL.out]; exact Nat.le_refl _, by rw [HRL.out]; omega, HM.out⟩
  · clear h
    have hn' : 60 < n ∨ n = 0 := by omega
    rcases hn' with h | h
    · clear hn
      have hb1 : decide ((60 : Int) < (n : Int)) = true := decide_eq_true (by omega)
      have hb2 : ((n : Int) == 0) = false := beq_eq_false_iff_ne.2 (by omega)
      go_enter Try.func8, Try.ntmps8
      go_wp2_with (go_at_call 11; refine (works_ok _).mono ?_; rintro e w2 ⟨rfl, hb⟩; have HW := Lib.hid hb; clear hb)
      go_ret
      exact ⟨rfl, HW.out⟩
    · clear hn
      subst h
      go_enter Try.func8, Try.ntmps8
      go_wp2_with (go_at_call 11; refine (works_ok _).mono ?_; rintro e w2 ⟨rfl, hb⟩; have HW := Lib.hid hb; clear hb)
      go_ret
      exact ⟨rfl, HW.out⟩
end Go.Proofs.Ytlnjgbdekcgmpaa
