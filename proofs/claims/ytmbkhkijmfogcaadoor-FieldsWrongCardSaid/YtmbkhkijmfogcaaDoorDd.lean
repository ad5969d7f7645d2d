/- The contracts of gens.Text and gens.Parse. -/
import Derived.Test.YtmbkhkijmfogcaaDoorDa
import Derived.Test.YtmbkhkijmfogcaaDoorDc
import Derived.Test.YtmbkhkijmfogcaaDoorMath
namespace Go.Proofs.YtmbkhkijmfogcaaDoor
open Go.RowKit

set_option maxHeartbeats 400000 in
theorem textOf_ok (u : Nat) (hu : u ≤ 4294967295) (w : World) (b1 : Nat) (hg : w.cell? ⟨b1, 0, none⟩ = some (.int .u32 u)) (htab : u < 100 ∨ Tab w) :
    Calls Tryd.prog 53 #[.pointer (some ⟨b1, 0, none⟩)] w fun e w' => e = .returned (.string ⟨(Lib.decDigits u).toArray⟩) ∧ Below w.heap.size w w' := by
  have HT := Lib.hid htab
  clear htab
  go_enter Tryd.func53, Tryd.ntmps53
  go_wp2_with fail
  refine (format_any u hu _ HT.out).mono ?_
  rintro e w1 ⟨rfl, hb⟩
  go_wp2
  go_ret
  exact ⟨rfl, hb⟩

set_option maxHeartbeats 400000 in
theorem text_ok (u : Nat) (h1 : 1 ≤ u) (h2 : u ≤ 4294967295) (w : World) (htab : u < 100 ∨ Tab w) :
    Calls Tryd.prog 42 #[.int .u32 u] w fun e w' => e = .returned (.tuple #[.string ⟨(Lib.decDigits u).toArray⟩, .int .i64 0]) ∧ Below w.heap.size w w' := by
  have hmf : ∀ (fn : Fn) (first cap : Array Value) (w : World), (Instr.makeFunc fn first cap).run Tryd.prog w = .ok (.func fn first cap) w := fun _ _ _ _ => rfl
  have hbel : Below w.heap.size w ((w.alloc (.cells #[.int .u32 u] 22)).alloc (.cells #[.int .u32 u] 22)) := ((Below.refl _ _).alloc (Nat.le_refl _) _).alloc (by simp) _
  have HT := Lib.hid (htab.imp id fun h => h.below hbel)
  have HB := Lib.hid hbel
  clear htab hbel
  go_enter Tryd.func42, Tryd.ntmps42
  go_wp2
  go_loop [12] (fun i => ∃ k : Nat, k ≤ 1 ∧ i = .int .i64 k) (fun i => 1 - (intOf i).toNat)
  case atStart => exact ⟨0, by omega, rfl⟩
  case round =>
    obtain ⟨k, hk, rfl⟩ := hrel
    by_cases hlt : k < 1
    · obtain rfl : k = 0 := by omega
      go_wp2_with (go_at_call 40; refine (check_ok _ _ (by omega) (by omega)).mono ?_; rintro e w' ⟨rfl, rfl⟩)
      go_round
      case rel => exact ⟨1, by omega, by go_num⟩
      case measure => simp [intOf]
    · go_wp2_with fail
      refine (textOf_ok u h2 _ _ (by go_simp) HT.out).mono ?_
      rintro e w1 ⟨rfl, hb⟩
      go_wp2
      go_ret2
      exact ⟨rfl, HB.out.trans (hb.mono (by simp; omega))⟩

set_option maxHeartbeats 400000 in
theorem text_zero (w : World) :
    Calls Tryd.prog 42 #[.int .u32 0] w fun e w' => e = .returned (.tuple #[.string ⟨#[]⟩, .int .i64 2]) ∧ Below w.heap.size w w' := by
  have hmf : ∀ (fn : Fn) (first cap : Array Value) (w : World), (Instr.makeFunc fn first cap).run Tryd.prog w = .ok (.func fn first cap) w := fun _ _ _ _ => rfl
  go_enter Tryd.func42, Tryd.ntmps42
  go_wp2
  go_loop [12] (fun i => i = .int .i64 0) (fun i => 1 - (intOf i).toNat)
  case atStart => rfl
  case round =>
    obtain rfl := hrel
    go_wp2_with (go_at_call 40; refine (check_zero _).mono ?_; rintro e w' ⟨rfl, rfl⟩)
    go_ret2
    exact ⟨rfl, ((Below.refl _ _).alloc (Nat.le_refl _) _).alloc (by simp) _⟩

theorem parseUint_ok (s : ByteArray) (hs : s.size ≤ 281474976710656) (u : Nat) (h : Lib.parseUintB 32 s.data.toList = .ok u) (w : World) :
    Calls Tryd.prog 68 #[.string s, .int .i64 10, .int .i64 32] w fun e w' => e = .returned (.tuple #[.int .u64 u, .nilIface]) ∧ Below w.heap.size w w' := by
  refine (Tryd.strconv_ParseUint_10_at32_ok s (by omega) u h w).mono ?_
  rintro e w' ⟨rfl, h⟩
  refine ⟨rfl, ?_⟩
  rcases h with rfl | rfl
  · exact Below.refl _ _
  · exact Lib.bytesWorld_below _ _ _

theorem decBytes_size (u : Nat) (h : u ≤ 4294967295) : (⟨(Lib.decDigits u).toArray⟩ : ByteArray).size ≤ 20 := by
  have := Lib.decDigits_length u
  have : Lib.nDigits u ≤ 20 := by
    by_cases h0 : u = 0
    · subst h0; rw [Lib.nDigits_small (by omega)]; omega
    · have := Lib.numDigits_eq u (by omega) (by omega); split at this <;> omega
  simp only [ByteArray.size, List.size_toArray]
  omega

set_option maxHeartbeats 400000 in
theorem parse_same (u : Nat) (h1 : 1 ≤ u) (h2 : u ≤ 4294967295) (w : World) (htab : u < 100 ∨ Tab w) :
    Calls Tryd.prog 58 #[.string ⟨(Lib.decDigits u).toArray⟩] w fun e w' => e = .returned (.tuple #[.int .u32 u, .int .i64 0]) ∧ Below w.heap.size w w' := by
  have HT := Lib.hid htab
  clear htab
  go_enter Tryd.func58, Tryd.ntmps58
  go_wp2_with fail
  refine (parseUint_ok _ (by have := decBytes_size u h2; omega) u (parseB_digits u h2) _).mono ?_
  rintro e w1 ⟨rfl, hb⟩
  have HT1 := Lib.hid (HT.out.imp id fun h => h.below hb)
  go_wp2_with fail
  refine (text_ok u h1 h2 _ HT1.out).mono ?_
  rintro e w2 ⟨rfl, hb2⟩
  have HB := Lib.hid (hb.trans (hb2.mono hb.size))
  go_wp2
  go_ret2
  exact ⟨rfl, HB.out⟩

set_option maxHeartbeats 400000 in
theorem parse_other (s : ByteArray) (hs : s.size ≤ 281474976710656) (u : Nat) (h1 : 1 ≤ u) (hp : Lib.parseUintB 32 s.data.toList = .ok u) (hne : s.data.toList ≠ Lib.decDigits u) (w : World) (htab : u < 100 ∨ Tab w) :
    Calls Tryd.prog 58 #[.string s] w fun e w' => e = .returned (.tuple #[.int .u32 0, .int .i64 9]) ∧ Below w.heap.size w w' := by
  have h2 : u ≤ 4294967295 := by have := Lib.parseUintB_le hp; omega
  have hne0 : Lib.decDigits u ≠ s.toList := by
    intro e
    exact hne (by rw [e, ByteArray.toList_eq])
  have hne1 : (!Lib.decDigits u == s.toList) = true := by rw [beq_eq_false_iff_ne.2 hne0]; rfl
  clear hne0
  have HT := Lib.hid htab
  have HP := Lib.hid hp
  clear htab hne hp
  go_enter Tryd.func58, Tryd.ntmps58
  go_wp2_with fail
  refine (parseUint_ok _ hs u HP.out _).mono ?_
  rintro e w1 ⟨rfl, hb⟩
  have HT1 := Lib.hid (HT.out.imp id fun h => h.below hb)
  go_wp2_with fail
  refine (text_ok u h1 h2 _ HT1.out).mono ?_
  rintro e w2 ⟨rfl, hb2⟩
  have HB := Lib.hid (hb.trans (hb2.mono hb.size))
  go_wp2
  go_ret2
  exact ⟨rfl, HB.out⟩

set_option maxHeartbeats 400000 in
theorem parse_naught (s : ByteArray) (hs : s.size ≤ 281474976710656) (hp : Lib.parseUintB 32 s.data.toList = .ok 0) (w : World) :
    Calls Tryd.prog 58 #[.string s] w fun e w' => e = .returned (.tuple #[.int .u32 0, .int .i64 9]) ∧ Below w.heap.size w w' := by
  have HP := Lib.hid hp
  clear hp
  go_enter Tryd.func58, Tryd.ntmps58
  go_wp2_with fail
  refine (parseUint_ok _ hs 0 HP.out _).mono ?_
  rintro e w1 ⟨rfl, hb⟩
  go_wp2_with fail
  refine (text_zero _).mono ?_
  rintro e w2 ⟨rfl, hb2⟩
  have HB := Lib.hid (hb.trans (hb2.mono hb.size))
  go_wp2
  go_ret2
  exact ⟨rfl, HB.out⟩

/-- What the two listed sentinels hold. -/
def Sent (w : World) : Prop := (∃ t p, w.var? Tryd.prog "strconv.ErrSyntax" = some #[.iface t p]) ∧ (∃ t p, w.var? Tryd.prog "strconv.ErrRange" = some #[.iface t p])

theorem parseUint_bad (s : ByteArray) (hs : s.size ≤ 281474976710656) (h : ∀ u, Lib.parseUintB 32 s.data.toList ≠ .ok u) (w : World) (hse : Sent w) :
    Calls Tryd.prog 68 #[.string s, .int .i64 10, .int .i64 32] w fun e w' => ∃ (u : Int) (t : TypeId) (N : Nat), 0 ≤ u ∧ u ≤ 4294967295 ∧ e = .returned (.tuple #[.int .u64 u, .iface t (.pointer (some ⟨N, 0, none⟩))]) ∧ Below w.heap.size w w' := by
  obtain ⟨⟨t1, p1, hv1⟩, ⟨t2, p2, hv2⟩⟩ := hse
  cases hp : Lib.parseUintB 32 s.data.toList with
  | ok u => exact absurd hp (h u)
  | _ =>
    first
    | exact (Any.strconv_ParseUint_10_at32_syntax_var Tryd.laysPu14 s hs hp t1 p1 w hv1).mono fun e w' ⟨N, he, _, _, hb⟩ => ⟨0, _, N, by omega, by omega, he, hb⟩
    | exact (Any.strconv_ParseUint_10_at32_range_var Tryd.laysPu14 s hs hp t2 p2 w hv2).mono fun e w' ⟨N, he, _, _, hb⟩ => ⟨4294967295, _, N, by omega, by omega, he, hb⟩

set_option maxHeartbeats 400000 in
theorem parse_bad (s : ByteArray) (hs : s.size ≤ 281474976710656) (h : ∀ u, Lib.parseUintB 32 s.data.toList ≠ .ok u) (w : World) (hse : Sent w) :
    Calls Tryd.prog 58 #[.string s] w fun e w' => e = .returned (.tuple #[.int .u32 0, .int .i64 9]) ∧ Below w.heap.size w w' := by
  have HS := Lib.hid hse
  have HP := Lib.hid h
  clear hse h
  go_enter Tryd.func58, Tryd.ntmps58
  go_wp2_with fail
  refine (parseUint_bad _ hs HP.out _ HS.out).mono ?_
  rintro e w1 ⟨u, t, N, hu1, hu2, rfl, hb⟩
  go_wp2
  go_ret2
  exact ⟨rfl, hb⟩
end Go.Proofs.YtmbkhkijmfogcaaDoor
