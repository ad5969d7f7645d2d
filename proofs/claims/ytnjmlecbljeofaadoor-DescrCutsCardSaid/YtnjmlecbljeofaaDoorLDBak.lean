/- The walk of the statement DescrBack: it returns true for any three numbers. -/
import Derived.Test.YtnjmlecbljeofaaDoorDz3
namespace Go.Proofs.YtnjmlecbljeofaaDoor
open Go.RowKit

theorem num_parts {k p g : Nat} (h : Okn 256 k p g) : (num k p g : Int) / 1099511627776 = k ∧ (num k p g : Int) / 4294967296 % 256 = p ∧ (num k p g : Int) % 4294967296 = g ∧ (num k p g : Int) ≤ 18446744073709551615 := by
  obtain ⟨h1, h2, h3, h4, h5⟩ := h
  unfold num
  omega
theorem unpack_num (k p g : Nat) (h : Okn 256 k p g) (w : World) :
    Calls Tryd.prog 15 #[.int .u64 (num k p g)] w fun e w' => e = .returned (.tuple #[.agg #[.int .i64 k, .int .i64 p, .int .u32 g], .int .i64 0]) ∧ Below w.heap.size w w' := by
  obtain ⟨e1, e2, e3, e4⟩ := num_parts h
  exact unpack_ok _ k p g h (by omega) e4 e1 e2 e3 w
theorem d3_two {w : World} {k p g k' p' g' : Int} {T T' : TypeId} : D3 ((w.alloc (.cells #[.int .i64 k, .int .i64 p, .int .u32 g] T)).alloc (.cells #[.int .i64 k', .int .i64 p', .int .u32 g'] T')) w.heap.size k p g ∧ D3 ((w.alloc (.cells #[.int .i64 k, .int .i64 p, .int .u32 g] T)).alloc (.cells #[.int .i64 k', .int .i64 p', .int .u32 g'] T')) (w.heap.size + 1) k' p' g' := by
  constructor
  · constructor <;> go_simp
  · constructor <;> go_simp
theorem pre_own (m : UInt8) (k p g : Nat) (l : UInt8) (hl : l = letter k) : Lib.hasPrefix (txt m k p g) [l] = true := by
  rw [pre_txt, hl]
  simp

theorem made_nat (kind slot gen : Int) (h1 : 0 ≤ kind ∧ kind ≤ 255) (h2 : 0 ≤ slot ∧ slot ≤ 255) (h3 : 0 ≤ gen ∧ gen ≤ 4294967295) :
    ∃ k p o g : Nat, Okn 256 k p g ∧ Okn 64 k o g ∧ (k : Int) = 1 + kind % 3 ∧ ∀ W : World, Calls Tryd.prog 32 #[.int .u8 kind, .int .u8 slot, .int .u32 gen] W fun e w' => e = .returned (.tuple #[.agg #[.int .i64 k, .int .i64 p, .int .u32 g], .agg #[.int .i64 k, .int .i64 o, .int .u32 g]]) ∧ Below W.heap.size W w' := by
  have e1 : 1 + kind % 3 = ((1 + kind % 3).toNat : Int) := by omega
  have e2 : slot = (slot.toNat : Int) := by omega
  have e3 : slot % 64 = ((slot % 64).toNat : Int) := by omega
  have e4 : max gen 1 = ((max gen 1).toNat : Int) := by omega
  refine ⟨(1 + kind % 3).toNat, slot.toNat, (slot % 64).toNat, (max gen 1).toNat, ⟨by omega, by omega, by omega, by omega, by omega⟩, ⟨by omega, by omega, by omega, by omega, by omega⟩, by omega, fun W => ?_⟩
  have h := made_at kind slot gen _ _ _ h1 h2 h3 rfl rfl rfl W
  rw [e1, e3, e4] at h
  rw [← e2]
  exact h

set_option maxHeartbeats 2000000 in
set_option maxRecDepth 100000 in
theorem dBak_core (kind slot gen r : Int) (k p o g : Nat) (w : World) (h1 : 0 ≤ kind ∧ kind ≤ 255) (hO : Okn 256 k p g) (hO' : Okn 64 k o g) (hkind : kind % 3 = r)
    (hmade : ∀ W : World, Calls Tryd.prog 32 #[.int .u8 kind, .int .u8 slot, .int .u32 gen] W fun e w' => e = .returned (.tuple #[.agg #[.int .i64 k, .int .i64 p, .int .u32 g], .agg #[.int .i64 k, .int .i64 o, .int .u32 g]]) ∧ Below W.heap.size W w')
    (L : UInt8) (hL : L = letter k) (hidx : ∀ W, (Instr.index 9 (.string ⟨#[102, 98, 108]⟩) (.int .u8 r)).run Tryd.prog W = .ok (.int .u8 L.toNat) W)
    (hcv : ∀ W, (convert 5 9 (.int .u8 L.toNat)).run Tryd.prog W = .ok (.string ⟨#[L]⟩) W) (he : Env w) :
    Calls Tryd.prog 7 #[.int .u8 kind, .int .u8 slot, .int .u32 gen] w fun e w' => e = .returned (.bool true) ∧ Below w.heap.size w w' := by
  have HE := Lib.hid he
  have HM := Lib.hid hmade
  have HO := Lib.hid hO
  have HO' := Lib.hid hO'
  have HL := Lib.hid hL
  have hr2 : kind.tmod 3 = r := by rw [Int.tmod_eq_emod_of_nonneg h1.1]; exact hkind
  obtain ⟨n, hn⟩ : ∃ n, n = num k p g := ⟨_, rfl⟩
  have hnk : (n : Int) / 1099511627776 = (k : Int) := by rw [hn]; exact (num_parts hO).1
  have hng : (n : Int) % 4294967296 = (g : Int) := by rw [hn]; exact (num_parts hO).2.2.1
  have hn1 : (n : Int) ≤ 18446744073709551615 := by rw [hn]; exact (num_parts hO).2.2.2
  obtain ⟨k1, k3, p1, g1, g2⟩ := hO
  have HP : Hid (∀ W : World, Calls Tryd.prog 13 #[.agg #[.int .i64 k, .int .i64 p, .int .u32 g]] W fun e w' => e = .returned (.tuple #[.int .u64 n, .int .i64 0]) ∧ Below W.heap.size W w') := fun W => by rw [hn]; exact pack_ok k p g HO.out W
  have HU : Hid (∀ W : World, Calls Tryd.prog 15 #[.int .u64 n] W fun e w' => e = .returned (.tuple #[.agg #[.int .i64 k, .int .i64 p, .int .u32 g], .int .i64 0]) ∧ Below W.heap.size W w') := fun W => by rw [hn]; exact unpack_num k p g HO.out W
  have HS : Hid ((⟨(txt 46 k p g).toArray⟩ : ByteArray).size ≤ 22) := txt_bytes HO.out (by omega)
  have HS' : Hid ((⟨(txt 58 k o g).toArray⟩ : ByteArray).size ≤ 22) := txt_bytes HO'.out (by omega)
  clear he hmade hO' hn hL
  go_enter Tryd.func7, Tryd.ntmps7
  go_wp2_with fail
  refine (HM.out _).mono ?_
  rintro e w1 ⟨rfl, hb1⟩
  have HD := Lib.hid (d3_two (w := w1) (k := k) (p := p) (g := g) (k' := k) (p' := o) (g' := g) (T := 24) (T' := 39))
  have HB := Lib.hid (bel2 hb1 (bel2 (bup w1 (.cells #[.int .i64 k, .int .i64 p, .int .u32 g] 24)) (bup _ (.cells #[.int .i64 k, .int .i64 o, .int .u32 g] 39))))
  clear hb1
  go_wp2_with fail
  refine (HP.out _).mono ?_
  rintro e w2 ⟨rfl, hb2⟩
  have HD2 := Lib.hid (And.intro (HD.out.1.below hb2) (HD.out.2.below hb2))
  have HB2 := Lib.hid (bel2 HB.out hb2)
  clear hb2
  go_wp2_with fail
  refine (HU.out _).mono ?_
  rintro e w3 ⟨rfl, hb3⟩
  have HA := Lib.hid (D3.new w3 k p g 24)
  have HD3 := Lib.hid (And.intro ((HD2.out.1.below hb3).below (bup w3 (.cells #[.int .i64 k, .int .i64 p, .int .u32 g] 24))) ((HD2.out.2.below hb3).below (bup w3 (.cells #[.int .i64 k, .int .i64 p, .int .u32 g] 24))))
  have HB3 := Lib.hid (bel2 HB2.out (bel2 hb3 (bup w3 (.cells #[.int .i64 k, .int .i64 p, .int .u32 g] 24))))
  clear hb3
  obtain ⟨d0, d1, d2⟩ := HD3.out.1
  go_wp2_with fail
  refine (dtext_ok k p g HO.out _ (HE.out.below HB3.out)).mono ?_
  rintro e w4 ⟨rfl, hb4⟩
  have HA4 := Lib.hid (HA.out.below hb4)
  have HD4 := Lib.hid (And.intro (HD3.out.1.below hb4) (HD3.out.2.below hb4))
  have HB4 := Lib.hid (bel2 HB3.out hb4)
  clear hb4 d0 d1 d2
  go_wp2_with fail
  refine (dparse_yes k p g HO.out _ (HE.out.below HB4.out)).mono ?_
  rintro e w5 ⟨rfl, hb5⟩
  have hb5' : Below w4.heap.size w4 (w5.alloc (.cells #[.int .i64 k, .int .i64 p, .int .u32 g] 24)) := bel2 hb5 (bup w5 _)
  have HC := Lib.hid (D3.new w5 k p g 24)
  have HA5 := Lib.hid (HA4.out.below hb5')
  have HD5 := Lib.hid (And.intro (HD4.out.1.below hb5') (HD4.out.2.below hb5'))
  have HB5 := Lib.hid (bel2 HB4.out hb5')
  clear hb5 hb5'
  obtain ⟨o0, o1, o2⟩ := HD5.out.2
  go_wp2_with fail
  refine (otext_ok k o g HO'.out _ (HE.out.below HB5.out)).mono ?_
  rintro e w6 ⟨rfl, hb6⟩
  have HC6 := Lib.hid (HC.out.below hb6)
  have HA6 := Lib.hid (HA5.out.below hb6)
  have HD6 := Lib.hid (And.intro (HD5.out.1.below hb6) (HD5.out.2.below hb6))
  have HB6 := Lib.hid (bel2 HB5.out hb6)
  clear hb6 o0 o1 o2
  go_wp2_with fail
  refine (oparse_yes k o g HO'.out _ (HE.out.below HB6.out)).mono ?_
  rintro e w7 ⟨rfl, hb7⟩
  have hb7' : Below w6.heap.size w6 (w7.alloc (.cells #[.int .i64 k, .int .i64 o, .int .u32 g] 39)) := bel2 hb7 (bup w7 _)
  have HF := Lib.hid (D3.new w7 k o g 39)
  have HC7 := Lib.hid (HC6.out.below hb7')
  have HA7 := Lib.hid (HA6.out.below hb7')
  have HD7 := Lib.hid (And.intro (HD6.out.1.below hb7') (HD6.out.2.below hb7'))
  have HB7 := Lib.hid (bel2 HB6.out hb7')
  clear hb7 hb7'
  obtain ⟨⟨d0, d1, d2⟩, ⟨o0, o1, o2⟩⟩ := HD7.out
  obtain ⟨a0, a1, a2⟩ := HA7.out
  obtain ⟨c0, c1, c2⟩ := HC7.out
  obtain ⟨f0, f1, f2⟩ := HF.out
  go_wp2_with fail
  refine (oparse_no _ (by have := HS.out; omega) (no_other (.inl rfl) (.inr rfl) (by decide) 64 k p g) _ (HE.out.below HB7.out)).mono ?_
  rintro e w8 ⟨rfl, hb8⟩
  have hb8' : Below _ _ (w8.alloc (.cells #[.int .i64 0, .int .i64 0, .int .u32 0] 39)) := bel2 hb8 (bup w8 _)
  have HD8 := Lib.hid (HD7.out.1.below hb8')
  have HB8 := Lib.hid (bel2 HB7.out hb8')
  clear hb8 hb8' d0 d1 d2 o0 o1 o2 a0 a1 a2 c0 c1 c2 f0 f1 f2
  go_wp2_with fail
  refine (dparse_no _ (by have := HS'.out; omega) (no_other (.inr rfl) (.inl rfl) (by decide) 256 k o g) _ (HE.out.below HB8.out)).mono ?_
  rintro e w9 ⟨rfl, hb9⟩
  have hb9' : Below _ _ (w9.alloc (.cells #[.int .i64 0, .int .i64 0, .int .u32 0] 24)) := bel2 hb9 (bup w9 _)
  have HD9 := Lib.hid (HD8.out.below hb9')
  have HB9 := Lib.hid (bel2 HB8.out hb9')
  clear hb9 hb9'
  obtain ⟨d0, d1, d2⟩ := HD9.out
  have HP1 : Hid (∀ W : World, Calls Tryd.prog 33 #[.string ⟨(txt 46 k p g).toArray⟩, .string ⟨#[L]⟩] W fun e w' => e = .returned (.bool true) ∧ w' = W) := fun W => by
    have h := Tryd.strings_HasPrefix ⟨(txt 46 k p g).toArray⟩ ⟨#[L]⟩ W
    rw [show Lib.hasPrefix (⟨(txt 46 k p g).toArray⟩ : ByteArray).data.toList (⟨#[L]⟩ : ByteArray).data.toList = true from pre_own 46 k p g L HL.out] at h
    exact h
  have HP2 : Hid (∀ W : World, Calls Tryd.prog 33 #[.string ⟨(txt 58 k o g).toArray⟩, .string ⟨#[L]⟩] W fun e w' => e = .returned (.bool true) ∧ w' = W) := fun W => by
    have h := Tryd.strings_HasPrefix ⟨(txt 58 k o g).toArray⟩ ⟨#[L]⟩ W
    rw [show Lib.hasPrefix (⟨(txt 58 k o g).toArray⟩ : ByteArray).data.toList (⟨#[L]⟩ : ByteArray).data.toList = true from pre_own 58 k o g L HL.out] at h
    exact h
  go_wp2_with fail
  refine (HP1.out _).mono ?_
  rintro e w10 ⟨rfl, hw⟩
  subst hw
  go_wp2_with fail
  refine (HP2.out _).mono ?_
  rintro e w11 ⟨rfl, hw⟩
  subst hw
  go_wp2_with fail
  refine (works_ok _ (HE.out.below HB9.out)).mono ?_
  rintro e w12 ⟨rfl, hb12⟩
  clear d0 d1 d2
  go_wp2
  go_ret
  exact ⟨rfl, bel2 HB9.out hb12⟩

theorem dBak_walk (kind slot gen : Int) (w : World) (a0 : 0 ≤ kind) (a1 : kind ≤ 255) (b0 : 0 ≤ slot) (b1 : slot ≤ 255) (c0 : 0 ≤ gen) (c1 : gen ≤ 4294967295) (he : Env w) :
    Calls Tryd.prog 7 #[.int .u8 kind, .int .u8 slot, .int .u32 gen] w fun e w' => e = .returned (.bool true) ∧ Below w.heap.size w w' := by
  obtain ⟨k, p, o, g, hO, hO', hk, hm⟩ : ∃ k p o g : Nat, Okn 256 k p g ∧ Okn 64 k o g ∧ (k : Int) = 1 + kind % 3 ∧ ∀ W : World, Calls Tryd.prog 32 #[.int .u8 kind, .int .u8 slot, .int .u32 gen] W fun e w' => e = .returned (.tuple #[.agg #[.int .i64 k, .int .i64 p, .int .u32 g], .agg #[.int .i64 k, .int .i64 o, .int .u32 g]]) ∧ Below W.heap.size W w' := made_nat kind slot gen ⟨a0, a1⟩ ⟨b0, b1⟩ ⟨c0, c1⟩
  have h : kind % 3 = 0 ∨ kind % 3 = 1 ∨ kind % 3 = 2 := by omega
  rcases h with h | h | h
  · obtain rfl : k = 1 := by omega
    exact dBak_core kind slot gen 0 1 p o g w ⟨a0, a1⟩ hO hO' h hm 102 rfl (fun _ => by kernel_rfl) (fun _ => by kernel_rfl) he
  · obtain rfl : k = 2 := by omega
    exact dBak_core kind slot gen 1 2 p o g w ⟨a0, a1⟩ hO hO' h hm 98 rfl (fun _ => by kernel_rfl) (fun _ => by kernel_rfl) he
  · obtain rfl : k = 3 := by omega
    exact dBak_core kind slot gen 2 3 p o g w ⟨a0, a1⟩ hO hO' h hm 108 rfl (fun _ => by kernel_rfl) (fun _ => by kernel_rfl) he
end Go.Proofs.YtnjmlecbljeofaaDoor
