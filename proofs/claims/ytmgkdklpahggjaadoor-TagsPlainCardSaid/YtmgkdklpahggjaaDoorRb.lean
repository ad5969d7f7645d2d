/- The contract of the document's decoder of one rune, in the words of UTF-8: a rune that stands there is given with its length; else nothing. -/
import Derived.Test.YtmgkdklpahggjaaDoorRa
namespace Go.Proofs.YtmgkdklpahggjaaDoor
open Go.RowKit Go.Lib

theorem byte_at (s : ByteArray) (pre l : List UInt8) (e : s.data.toList = pre ++ l) (i : Nat) (hi : i < l.length) : ∃ h : pre.length + i < s.size, s[pre.length + i] = l[i] := by
  have hl : s.size = pre.length + l.length := by rw [Lib.size_eq, e, List.length_append]
  refine ⟨by omega, ?_⟩
  have h1 : s.data.toList[pre.length + i]? = l[i]? := by
    rw [e, List.getElem?_append_right (by omega)]
    congr 1
    omega
  rw [List.getElem?_eq_getElem hi, List.getElem?_eq_getElem (by rw [← Lib.size_eq]; omega)] at h1
  have h2 := Option.some.inj h1
  rw [← h2]
  rfl

theorem rune_good (s : ByteArray) (pre m : List UInt8) (r : Nat) (w : World) (hs : s.size ≤ 140737488351232) (hr : OkRune r) (e : s.data.toList = pre ++ (encR r ++ m)) :
    Calls Tryd.prog 37 #[.string s, .int .i64 pre.length] w fun e w' => e = .returned (.tuple #[.int .i64 r, .int .i64 (encR r).length]) ∧ w = w' := by
  have hle := okRune_le hr
  have hl : s.size = pre.length + ((encR r).length + m.length) := by rw [Lib.size_eq, e]; simp
  have B := byte_at s pre (encR r ++ m) e
  unfold OkRune at hr
  by_cases h1 : r < 128
  · rw [encR_1 h1] at B hl ⊢
    obtain ⟨p0, q0⟩ := B 0 (by simp)
    have q0' : s[pre.length].toNat = r := by
      have : s[pre.length] = UInt8.ofNat r := q0
      rw [this, u8nat (by omega)]
    exact rune_ascii s pre.length r w (by simpa using p0) hs q0' h1
  by_cases h2 : r < 2048
  · rw [encR_2 (by omega) h2] at B hl ⊢
    obtain ⟨p0, q0⟩ := B 0 (by simp)
    obtain ⟨p1, q1⟩ := B 1 (by simp)
    have q0' : (s[pre.length]'(by simpa using p0)).toNat = 192 + r / 64 := by
      have : (s[pre.length]'(by simpa using p0)) = UInt8.ofNat (192 + r / 64) := q0
      rw [this, u8nat (by omega)]
    have q1' : (s[pre.length + 1]'p1).toNat = 128 + r % 64 := by
      have : (s[pre.length + 1]'p1) = UInt8.ofNat (128 + r % 64) := q1
      rw [this, u8nat (by omega)]
    exact rune_two s pre.length _ _ r 2 w (by simpa using p0) hs q0' (by omega) (by omega) (by omega) q1' (by omega)
      (.inr (.inr ⟨by unfold Cont; omega, by omega, by omega, rfl⟩))
  by_cases h3 : r < 65536
  · rw [encR_3 (by omega) h3] at B hl ⊢
    obtain ⟨p0, q0⟩ := B 0 (by simp)
    obtain ⟨p1, q1⟩ := B 1 (by simp)
    obtain ⟨p2, q2⟩ := B 2 (by simp)
    have q0' : (s[pre.length]'(by simpa using p0)).toNat = 224 + r / 4096 := by
      have : (s[pre.length]'(by simpa using p0)) = UInt8.ofNat (224 + r / 4096) := q0
      rw [this, u8nat (by omega)]
    have q1' : (s[pre.length + 1]'p1).toNat = 128 + r / 64 % 64 := by
      have : (s[pre.length + 1]'p1) = UInt8.ofNat (128 + r / 64 % 64) := q1
      rw [this, u8nat (by omega)]
    have q2' : (s[pre.length + 2]'p2).toNat = 128 + r % 64 := by
      have : (s[pre.length + 2]'p2) = UInt8.ofNat (128 + r % 64) := q2
      rw [this, u8nat (by omega)]
    exact rune_three s pre.length _ _ _ r 3 w (by simpa using p0) hs q0' (by omega) (by omega) (by omega) q1' (by omega) q2' (by omega)
      (.inr (.inr ⟨by unfold Cont; omega, by unfold Cont; omega, r, by omega, .inr ⟨by omega, by omega, rfl, rfl⟩⟩))
  · rw [encR_4 (by omega)] at B hl ⊢
    obtain ⟨p0, q0⟩ := B 0 (by simp)
    obtain ⟨p1, q1⟩ := B 1 (by simp)
    obtain ⟨p2, q2⟩ := B 2 (by simp)
    obtain ⟨p3, q3⟩ := B 3 (by simp)
    have q0' : (s[pre.length]'(by simpa using p0)).toNat = 240 + r / 262144 := by
      have : (s[pre.length]'(by simpa using p0)) = UInt8.ofNat (240 + r / 262144) := q0
      rw [this, u8nat (by omega)]
    have q1' : (s[pre.length + 1]'p1).toNat = 128 + r / 4096 % 64 := by
      have : (s[pre.length + 1]'p1) = UInt8.ofNat (128 + r / 4096 % 64) := q1
      rw [this, u8nat (by omega)]
    have q2' : (s[pre.length + 2]'p2).toNat = 128 + r / 64 % 64 := by
      have : (s[pre.length + 2]'p2) = UInt8.ofNat (128 + r / 64 % 64) := q2
      rw [this, u8nat (by omega)]
    have q3' : (s[pre.length + 3]'p3).toNat = 128 + r % 64 := by
      have : (s[pre.length + 3]'p3) = UInt8.ofNat (128 + r % 64) := q3
      rw [this, u8nat (by omega)]
    exact rune_four s pre.length _ _ _ _ r 4 w (by simpa using p0) hs q0' (by omega) (by omega) (by omega) q1' (by omega) q2' (by omega) q3' (by omega)
      (.inr (.inr (.inr ⟨by unfold Cont; omega, by unfold Cont; omega, by unfold Cont; omega, r, by omega, .inr ⟨by omega, by omega, rfl, rfl⟩⟩)))

theorem pair_no {a b : Nat} (h : (a, b) = (65533, 1)) (hb : b ≠ 1) : False := hb (congrArg Prod.snd h)
set_option maxRecDepth 100000 in
theorem rune_bad (s : ByteArray) (pre m : List UInt8) (w : World) (hs : s.size ≤ 140737488351232) (hne : m ≠ []) (hb : bad m) (e : s.data.toList = pre ++ m) :
    Calls Tryd.prog 37 #[.string s, .int .i64 pre.length] w fun e w' => e = .returned (.tuple #[.int .i64 0, .int .i64 0]) ∧ w = w' := by
  have hl : s.size = pre.length + m.length := by rw [Lib.size_eq, e]; simp
  have B := byte_at s pre m e
  unfold bad at hb
  rw [decodeL_N] at hb
  have hpos : 0 < m.length := List.length_pos_iff.2 hne
  have G : ∀ i (h : i < m.length), m.getD i 0 = m[i] := fun i h => by simp [List.getD, List.getElem?_eq_getElem h]
  obtain ⟨p0, q0⟩ := B 0 hpos
  have p0' : pre.length < s.size := by simpa using p0
  have q0' : s[pre.length].toNat = (m.getD 0 0).toNat := by rw [G 0 hpos, ← q0]; rfl
  have l0 := (m.getD 0 0).toNat_lt
  have l1 := (m.getD 1 0).toNat_lt
  have l2 := (m.getD 2 0).toNat_lt
  have l3 := (m.getD 3 0).toNat_lt
  generalize (m.getD 0 0).toNat = b0 at *
  by_cases c1 : b0 < 128
  · unfold decodeN at hb
    rw [if_pos c1] at hb
    have := congrArg Prod.fst hb
    simp only at this
    omega
  by_cases c2 : b0 < 192
  · exact rune_none s pre.length b0 w p0' hs q0' l0 (.inl ⟨by omega, c2⟩)
  by_cases c3 : 248 ≤ b0
  · exact rune_none s pre.length b0 w p0' hs q0' l0 (.inr c3)
  by_cases c4 : b0 < 224
  · by_cases n2 : m.length < 2
    · exact rune_short s pre.length 2 b0 w p0' hs q0' l0 (.inl ⟨by omega, c4, rfl⟩) (by omega)
    obtain ⟨p1, q1⟩ := B 1 (by omega)
    have q1' : (s[pre.length + 1]'p1).toNat = (m.getD 1 0).toNat := by rw [G 1 (by omega), ← q1]
    generalize (m.getD 1 0).toNat = b1 at *
    refine rune_two s pre.length b0 b1 0 0 w p0' hs q0' (by omega) c4 (by omega) q1' l1 ?_
    by_cases d1 : Cont b1
    · unfold Cont at d1
      refine .inr (.inl ⟨d1, ?_, rfl, rfl⟩)
      by_cases c5 : b0 < 194
      · exact c5
      · exfalso
        unfold decodeN at hb
        rw [if_neg c1, if_pos (by refine ⟨by omega, by omega, by omega⟩), if_pos (by omega)] at hb
        exact pair_no hb (by decide)
    · exact .inl ⟨d1, rfl, rfl⟩
  by_cases c6 : b0 < 240
  · by_cases n3 : m.length < 3
    · exact rune_short s pre.length 3 b0 w p0' hs q0' l0 (.inr (.inl ⟨by omega, c6, rfl⟩)) (by omega)
    obtain ⟨p1, q1⟩ := B 1 (by omega)
    obtain ⟨p2, q2⟩ := B 2 (by omega)
    have q1' : (s[pre.length + 1]'p1).toNat = (m.getD 1 0).toNat := by rw [G 1 (by omega), ← q1]
    have q2' : (s[pre.length + 2]'p2).toNat = (m.getD 2 0).toNat := by rw [G 2 (by omega), ← q2]
    generalize (m.getD 1 0).toNat = b1 at *
    generalize (m.getD 2 0).toNat = b2 at *
    refine rune_three s pre.length b0 b1 b2 0 0 w p0' hs q0' (by omega) c6 (by omega) q1' l1 q2' l2 ?_
    by_cases d1 : Cont b1
    · by_cases d2 : Cont b2
      · refine .inr (.inr ⟨d1, d2, _, rfl, .inl ⟨?_, rfl, rfl⟩⟩)
        unfold Cont at d1 d2
        by_cases c7 : (b0 - 224) * 4096 + (b1 - 128) * 64 + (b2 - 128) < 2048 ∨ (55296 ≤ (b0 - 224) * 4096 + (b1 - 128) * 64 + (b2 - 128) ∧ (b0 - 224) * 4096 + (b1 - 128) * 64 + (b2 - 128) ≤ 57343)
        · exact c7
        · exfalso
          unfold decodeN at hb
          rw [if_neg c1, if_neg (by omega), if_pos (by refine ⟨by omega, ⟨by omega, by omega⟩, by omega, by omega⟩), if_pos (by omega)] at hb
          exact pair_no hb (by decide)
      · exact .inr (.inl ⟨d1, d2, rfl, rfl⟩)
    · exact .inl ⟨d1, rfl, rfl⟩
  · by_cases n4 : m.length < 4
    · exact rune_short s pre.length 4 b0 w p0' hs q0' l0 (.inr (.inr ⟨by omega, by omega, rfl⟩)) (by omega)
    obtain ⟨p1, q1⟩ := B 1 (by omega)
    obtain ⟨p2, q2⟩ := B 2 (by omega)
    obtain ⟨p3, q3⟩ := B 3 (by omega)
    have q1' : (s[pre.length + 1]'p1).toNat = (m.getD 1 0).toNat := by rw [G 1 (by omega), ← q1]
    have q2' : (s[pre.length + 2]'p2).toNat = (m.getD 2 0).toNat := by rw [G 2 (by omega), ← q2]
    have q3' : (s[pre.length + 3]'p3).toNat = (m.getD 3 0).toNat := by rw [G 3 (by omega), ← q3]
    generalize (m.getD 1 0).toNat = b1 at *
    generalize (m.getD 2 0).toNat = b2 at *
    generalize (m.getD 3 0).toNat = b3 at *
    refine rune_four s pre.length b0 b1 b2 b3 0 0 w p0' hs q0' (by omega) (by omega) (by omega) q1' l1 q2' l2 q3' l3 ?_
    by_cases d1 : Cont b1
    · by_cases d2 : Cont b2
      · by_cases d3 : Cont b3
        · refine .inr (.inr (.inr ⟨d1, d2, d3, _, rfl, .inl ⟨?_, rfl, rfl⟩⟩))
          unfold Cont at d1 d2 d3
          by_cases c7 : (b0 - 240) * 262144 + (b1 - 128) * 4096 + (b2 - 128) * 64 + (b3 - 128) < 65536 ∨ 1114111 < (b0 - 240) * 262144 + (b1 - 128) * 4096 + (b2 - 128) * 64 + (b3 - 128)
          · exact c7
          · exfalso
            unfold decodeN at hb
            rw [if_neg c1, if_neg (by omega), if_neg (by omega), if_pos (by refine ⟨by omega, ⟨by omega, by omega⟩, ⟨by omega, by omega⟩, by omega, by omega⟩), if_pos (by omega)] at hb
            exact pair_no hb (by decide)
        · exact .inr (.inr (.inl ⟨d1, d2, d3, rfl, rfl⟩))
      · exact .inr (.inl ⟨d1, d2, rfl, rfl⟩)
    · exact .inl ⟨d1, rfl, rfl⟩
end Go.Proofs.YtmgkdklpahggjaaDoor
