/- The contracts of the document's Next, Clear, Union, Minus and Copy. -/
import Derived.Test.YtaenemdclmnnaaaDoorBg
import Derived.Test.YtaenemdclmnnaaaDoorBr
namespace Go.Proofs.YtaenemdclmnnaaaDoor
open Go.RowKit

theorem rnext_nil (i : Int) (w : World) : Calls Tryd.prog 45 #[.pointer none, .int .i64 i] w fun e w' => e = .returned (.tuple #[.int .i64 0, .bool false]) ∧ w = w' := by
  go_enter Tryd.func45, Tryd.ntmps45
  go_wp2_with (go_at_call 46; refine (rall_nil _).mono ?_; rintro e w' ⟨rfl, rfl⟩)
  go_loop [7] (fun v => v = .int .i64 0) (fun _ => 0)
  case atStart => rfl
  case round =>
    obtain rfl := hrel
    go_wp2
    go_ret2
    exact ⟨rfl, rfl⟩
/-- The first of l that is not below fr, found behind k that are. -/
theorem first_of (l : List Nat) (fr : Int) (k : Nat) (hk : k < l.length) (hlow : ∀ j (h : j < l.length), j < k → ((l[j] : Nat) : Int) < fr) (hat : fr ≤ ((l[k] : Nat) : Int)) :
    ∃ r, (l.filter fun (x : Nat) => decide (fr ≤ (x : Int))) = l[k] :: r := by
  have e : l = l.take k ++ l.drop k := (List.take_append_drop k l).symm
  have h1 : (l.take k).filter (fun (x : Nat) => decide (fr ≤ (x : Int))) = [] := by
    rw [List.filter_eq_nil_iff]
    intro x hx
    obtain ⟨j, hj, rfl⟩ := List.mem_iff_getElem.1 hx
    simp only [List.length_take] at hj
    rw [List.getElem_take]
    have := hlow j (by omega) (by omega)
    simp; omega
  have h2 : l.filter (fun (x : Nat) => decide (fr ≤ (x : Int))) = (l.drop k).filter (fun (x : Nat) => decide (fr ≤ (x : Int))) := by
    conv => lhs; rw [e]
    rw [List.filter_append, h1, List.nil_append]
  rw [h2, List.drop_eq_getElem_cons hk, List.filter_cons, if_pos (by simpa using hat)]
  exact ⟨_, rfl⟩
theorem none_of (l : List Nat) (fr : Int) (hlow : ∀ j (h : j < l.length), ((l[j] : Nat) : Int) < fr) : (l.filter fun (x : Nat) => decide (fr ≤ (x : Int))) = [] := by
  rw [List.filter_eq_nil_iff]
  intro x hx
  obtain ⟨j, hj, rfl⟩ := List.mem_iff_getElem.1 hx
  have := hlow j hj
  simp; omega
def RNextV (l : List Nat) (w : World) (e : Ending) (w' : World) : Prop := e = .returned (.tuple #[.int .i64 ((l.headD 0 : Nat) : Int), .bool !l.isEmpty]) ∧ Below w.heap.size w w'
set_option maxRecDepth 100000 in
set_option maxHeartbeats 1000000 in
theorem rnext_ok (b g n : Nat) (f : Nat → Bool) (fr : Int) (w : World) (h : RefW w b g n f) : Calls Tryd.prog 45 #[.pointer (some ⟨b, 0, none⟩), .int .i64 fr] w (RNextV (from_ f n fr) w) := by
  have H := Lib.hid (rall_s b g n f w h)
  have HF : Hid (∀ l, lst f n = l → from_ f n fr = l.filter fun (x : Nat) => decide (fr ≤ (x : Int))) := by rintro l rfl; rfl
  have hf := HF.out _ rfl
  clear h HF
  have HE := Lib.hid hf
  clear hf
  generalize lst f n = L at *
  go_enter Tryd.func45, Tryd.ntmps45
  go_wp2_with (go_at_call 46; refine H.out.mono ?_; rintro e w1 ⟨v, rfl, ⟨a, c, rfl, hl, hat⟩, _, hb⟩)
  have HAT := Lib.hid hat
  have HB := Lib.hid hb
  clear hat hb H
  go_loop [7] (fun v => ∃ k : Nat, k ≤ L.length ∧ v = .int .i64 k ∧ Hid (∀ j (h : j < L.length), j < k → ((L[j] : Nat) : Int) < fr)) (fun v => L.length - (intOf v).toNat)
  case atStart => exact ⟨0, Nat.zero_le _, rfl, fun j _ h => by omega⟩
  case round =>
    obtain ⟨k, hk, rfl, HL⟩ := hrel
    by_cases hlt : k < L.length
    · obtain ⟨G, O, rfl, hG, hc⟩ := HAT.out (by omega)
      have hcx := hc k hlt
      by_cases hge : fr ≤ ((L[k] : Nat) : Int)
      · obtain ⟨r, hr⟩ := first_of L fr k hlt HL.out hge
        have HR : Hid (from_ f n fr = L[k] :: r) := by unfold Hid; rw [HE.out]; exact hr
        clear hr hc
        generalize L[k] = x at *
        go_wp2
        go_ret2
        exact ⟨by rw [HR.out]; rfl, HB.out⟩
      · have hge2 : ((L[k] : Nat) : Int) < fr := by omega
        have HL2 : Hid (∀ j (h : j < L.length), j < k + 1 → ((L[j] : Nat) : Int) < fr) := fun j hj hj2 => by
          by_cases e : j = k
          · subst e; exact hge2
          · exact HL.out j hj (by omega)
        clear hge hc
        generalize L[k] = x at *
        go_wp2
        go_round
        case rel => exact ⟨k + 1, by omega, by go_num, HL2.out⟩
        case measure => simp [intOf]; omega
    · obtain rfl : k = L.length := by omega
      have HR : Hid (from_ f n fr = []) := by unfold Hid; rw [HE.out]; exact none_of L fr (fun j hj => HL.out j hj hj)
      go_wp2
      go_ret2
      exact ⟨by rw [HR.out]; rfl, HB.out⟩

/-! ### Clear -/
theorem rclear_nil (w : World) : Calls Tryd.prog 18 #[.pointer none] w fun e w' => e = .returned (.tuple #[]) ∧ w = w' := by
  go_enter Tryd.func18, Tryd.ntmps18
  go_wp2_with (go_at_call 39; refine (rvalid_nil _).mono ?_; rintro e w' ⟨rfl, rfl⟩)
  go_end0
  exact ⟨rfl, rfl⟩
theorem rclear_ok (b g n : Nat) (f : Nat → Bool) (w : World) (h : RefW w b g n f) : Calls Tryd.prog 18 #[.pointer (some ⟨b, 0, none⟩)] w fun e w' => e = .returned (.tuple #[]) ∧ (∃ g', w.heap.size ≤ g' ∧ RefW w' b g' n (fun _ => false)) ∧ Kept (· = b) w w' := by
  obtain ⟨cap, hc, hn, hm⟩ := h.c0
  have hbl := h.bt
  have hmk := make_bool n h.hi
  have hf : w.frozen? ⟨b, 0, none⟩ = false := by obtain ⟨_, _, h1, _⟩ := h.at_; exact h1.frozen 0
  have H := Lib.hid h
  clear h
  go_enter Tryd.func18, Tryd.ntmps18
  go_wp2_with (go_at_call 39; refine (rvalid_yes _ _ _ _ _ H.out).mono ?_; rintro e w' ⟨rfl, rfl⟩)
  go_end0
  refine ⟨rfl, ⟨w.heap.size, Nat.le_refl _, H.out.lo, H.out.hi, fun _ _ => rfl, n, made_ (.bool false) n, ?_, ?_, made_size _ _, Nat.le_refl _, by have := H.out.hi; unfold maxLen; omega, fun i hi => made_at _ hi⟩, ((Kept.refl (· = b) w).put1 _ _).alloc _⟩
  · obtain ⟨cap2, cur2, h1, _⟩ := H.out.at_
    exact (h1.put 0 (.slice (some ⟨w.heap.size, 0, none⟩) n n)).same (Below.heap_alloc _ _ _ (by simpa using hbl))
  · have h2 := Bk.new (w.setCell ⟨b, 0, none⟩ (.slice (some ⟨w.heap.size, 0, none⟩) n n)) 4 (made_ (.bool false) n)
    simpa using h2

/-! ### Union, Minus -/
theorem rall_set_nil1 (v : Option Addr) (x : Bool) (w : World) : Calls Tryd.prog 42 #[.pointer none, .pointer v, .bool x] w fun e w' => e = .returned (.int .i64 1) ∧ w = w' := by
  go_enter Tryd.func42, Tryd.ntmps42
  go_wp2_with (go_at_call 39; refine (rvalid_nil _).mono ?_; rintro e w' ⟨rfl, rfl⟩)
  go_ret
  exact ⟨rfl, rfl⟩
theorem rall_set_nil2 (b g n : Nat) (f : Nat → Bool) (x : Bool) (w : World) (h : RefW w b g n f) : Calls Tryd.prog 42 #[.pointer (some ⟨b, 0, none⟩), .pointer none, .bool x] w fun e w' => e = .returned (.int .i64 1) ∧ w = w' := by
  have H := Lib.hid (rvalid_yes b g n f w h)
  clear h
  go_enter Tryd.func42, Tryd.ntmps42
  go_wp2_with fail
  refine H.out.mono ?_
  rintro e w' ⟨rfl, rfl⟩
  go_wp2_with fail
  refine (rvalid_nil _).mono ?_
  rintro e w' ⟨rfl, rfl⟩
  go_wp2
  go_ret
  exact ⟨rfl, rfl⟩
theorem rall_set_arg (b g n b2 g2 m : Nat) (f h : Nat → Bool) (x : Bool) (w : World) (hs : RefW w b g n f) (ht : RefW w b2 g2 m h) (hne : n ≠ m) : Calls Tryd.prog 42 #[.pointer (some ⟨b, 0, none⟩), .pointer (some ⟨b2, 0, none⟩), .bool x] w fun e w' => e = .returned (.int .i64 2) ∧ ∃ q, w' = w.drewN q := by
  have H := Lib.hid (rvalid_yes b g n f w hs)
  have H2 := Lib.hid (rvalid_yes b2 g2 m h w ht)
  obtain ⟨cap, hc, _, _⟩ := hs.c0
  obtain ⟨cap2, hc2, _, _⟩ := ht.c0
  have hd : ((n : Int) != (m : Int)) = true := by simp; omega
  clear hs ht
  go_enter Tryd.func42, Tryd.ntmps42
  go_wp2_with fail
  refine H.out.mono ?_
  rintro e w' ⟨rfl, rfl⟩
  go_wp2_with fail
  refine H2.out.mono ?_
  rintro e w' ⟨rfl, rfl⟩
  go_wp2
  go_quiet (fail)
  go_wp2
  go_ret
  exact ⟨rfl, _, rfl⟩
/-- f, but x at the numbers of the first k of l. -/
def putL (f : Nat → Bool) (l : List Nat) (x : Bool) : Nat → Nat → Bool
  | 0 => f
  | k + 1 => upd (putL f l x k) (l.getD k 0) x
theorem putL_val (f : Nat → Bool) (l : List Nat) (x : Bool) : ∀ k, k ≤ l.length → ∀ q, putL f l x k q = if q ∈ l.take k then x else f q
  | 0, _, q => by simp [putL]
  | k + 1, hk, q => by
    have hlt : k < l.length := hk
    have ih := putL_val f l x k (by omega) q
    unfold putL
    have e : l.getD k 0 = l[k] := by simp [hlt]
    rw [e, List.take_succ_eq_append_getElem hlt]
    by_cases h : q = l[k]
    · subst h; rw [upd_same, if_pos (List.mem_append.2 (.inr (List.mem_singleton.2 rfl)))]
    · rw [upd_other h, ih]
      by_cases h2 : q ∈ l.take k
      · rw [if_pos h2, if_pos (List.mem_append.2 (.inl h2))]
      · rw [if_neg h2, if_neg (fun hm => (List.mem_append.1 hm).elim h2 (fun e => h (List.mem_singleton.1 e)))]
theorem putL_all {f h : Nat → Bool} {n : Nat} (hf : ∀ k, n ≤ k → h k = false) (x : Bool) : putL f (lst h n) x (lst h n).length = fun q => if h q then x else f q := by
  funext q
  rw [putL_val f (lst h n) x _ (Nat.le_refl _) q, List.take_length]
  by_cases hq : h q = true
  · have hlt : q < n := by
      apply Nat.lt_of_not_le
      intro hle
      rw [hf q hle] at hq
      exact absurd hq (by decide)
    rw [if_pos (lst_mem.2 ⟨hlt, hq⟩), if_pos hq]
  · rw [if_neg (fun e => hq (lst_mem.1 e).2), if_neg hq]

set_option maxRecDepth 100000 in
set_option maxHeartbeats 2000000 in
theorem rall_set_ok (b g b2 g2 n : Nat) (f h : Nat → Bool) (x : Bool) (w : World) (hs : RefW w b g n f) (ht : RefW w b2 g2 n h) : Calls Tryd.prog 42 #[.pointer (some ⟨b, 0, none⟩), .pointer (some ⟨b2, 0, none⟩), .bool x] w fun e w' => e = .returned (.int .i64 0) ∧ RefW w' b g n (fun q => if h q then x else f q) ∧ Kept (· = g) w w' := by
  have H := Lib.hid (rvalid_yes b g n f w hs)
  have H2 := Lib.hid (rvalid_yes b2 g2 n h w ht)
  have HS := Lib.hid hs
  have HT := Lib.hid ht
  have HPL := Lib.hid (putL_all (f := f) ht.out x)
  have HLN : Hid (∀ k, k < (lst h n).length → (lst h n).getD k 0 < n) := fun k hk => by
    have : (lst h n).getD k 0 ∈ lst h n := by rw [List.getD_eq_getElem?_getD, List.getElem?_eq_getElem hk, Option.getD_some]; exact List.getElem_mem _
    exact (lst_mem.1 this).1
  obtain ⟨cap, hc, _, _⟩ := hs.c0
  obtain ⟨cap2, hc2, _, _⟩ := ht.c0
  have hd : ((n : Int) != (n : Int)) = false := by simp
  have hn := hs.hi
  clear hs ht
  go_enter Tryd.func42, Tryd.ntmps42
  go_wp2_with fail
  refine H.out.mono ?_
  rintro e w' ⟨rfl, rfl⟩
  go_wp2_with fail
  refine H2.out.mono ?_
  rintro e w' ⟨rfl, rfl⟩
  go_wp2
  go_quiet (fail)
  have HRA : Hid (∀ q, Calls Tryd.prog 46 #[.pointer (some ⟨b2, 0, none⟩)] (w.drewN q) (AllS (lst h n) w)) := fun q =>
    (rall_s b2 g2 n h _ (HT.out.drewN q)).mono fun e w' ⟨v, a1, a2, a3, a4⟩ => ⟨v, a1, a2, a3, ⟨a4.os, a4.tape, a4.output, a4.size, a4.block⟩⟩
  clear H H2 HT hd hc hc2
  generalize lst h n = L at *
  go_wp2_with fail
  refine (HRA.out _).mono ?_
  rintro e w1 ⟨v, rfl, ⟨a, c, rfl, hl, hat⟩, hnew, hb⟩
  have HAT := Lib.hid hat
  have HS1 := Lib.hid (HS.out.below hb)
  have HNEW : Hid (∀ ad, a = some ad → w.heap.size ≤ ad.block) := fun ad e => hnew ad _ _ (by rw [e])
  have HGB : Hid (g < w.heap.size) := HS.out.gt
  have HB : Hid (Kept (· = g) w w1) := Kept.of_below hb
  clear hat hb hnew HRA HS
  go_wp2
  go_loopw [8] (fun v wr => ∃ k : Nat, k ≤ L.length ∧ v = .int .i64 k ∧ Hid (RefW wr b g n (putL f L x k)) ∧ Hid (Kept (· = g) w1 wr)) (fun v _ => L.length - (intOf v).toNat)
  case atStart => exact ⟨0, Nat.zero_le _, rfl, HS1.out, Kept.refl _ _⟩
  case round =>
    obtain ⟨k, hk, rfl, HR, HK⟩ := hrel
    by_cases hlt : k < L.length
    · obtain ⟨G, O, rfl, hG, hcs⟩ := HAT.out (by omega)
      have hGg : G ≠ g := by have := HNEW.out _ rfl; have := HGB.out; simp at *; omega
      have hcx := (World.cell?_of_block (a := ⟨G, O + k, none⟩) (HK.out.block G hG hGg)).trans (hcs k hlt)
      have hln := HLN.out k hlt
      have HSUC : Hid (putL f L x (k + 1) = upd (putL f L x k) (L.getD k 0) x) := rfl
      have e : L.getD k 0 = L[k] := by simp [hlt]
      rw [e] at hln HSUC
      obtain ⟨capk, hck, _, _⟩ := HR.out.c0
      generalize L[k] = y at *
      have hv := HR.out.val hln
      have hf := HR.out.fz y
      have HPUT := Lib.hid (HR.out.put hln x)
      generalize putL f L x k = F at *
      generalize F y = old at *
      clear hcs e hGg
      go_wp2
      go_region
      all_goals
        go_wp2
        go_roundw
        case rel => exact ⟨k + 1, by omega, by go_num, by rw [HSUC.out]; exact HPUT.out.same rfl rfl, (HK.out.put1 _ _).drew⟩
        case measure => simp [intOf]; omega
    · obtain rfl : k = L.length := by omega
      have HFIN : Hid (RefW wr b g n (fun q => if h q then x else f q)) := by rw [← HPL.out]; exact HR.out
      have HKF : Hid (Kept (· = g) w wr) := HB.out.trans HK.out
      go_wp2
      go_ret
      exact ⟨rfl, HFIN.out, HKF.out⟩
end Go.Proofs.YtaenemdclmnnaaaDoor
