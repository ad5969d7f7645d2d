/- Plain mathematics: math/bits.OnesCount64's sums by pairs, nibbles and bytes give the number of one bits. -/
import Derived.Test.YtaenemdclmnnaaaDoorBm
namespace Go.Proofs.YtaenemdclmnnaaaDoor

def pc (x : Nat) : Nat := (bitsOf x).length
def pcb (b : Nat) : Nat := ((List.range 8).filter b.testBit).length
def pcN (k x : Nat) : Nat := ((List.range (8 * k)).filter x.testBit).length
theorem pc_eq (x : Nat) : pc x = pcN 8 x := rfl
theorem pc_le (x : Nat) : pc x ≤ 64 := bitsOf_len x

theorem bit_lo {b : Nat} (r : Nat) (hb : b < 256) {j : Nat} (h : j < 8) : (b + 256 * r).testBit j = b.testBit j := by
  have := Nat.testBit_two_pow_mul_add (i := 8) r hb j
  rw [Nat.add_comm]; simpa [h] using this
theorem bit_hi {b : Nat} (r : Nat) (hb : b < 256) (j : Nat) : (b + 256 * r).testBit (8 + j) = r.testBit j := by
  have := Nat.testBit_two_pow_mul_add (i := 8) r hb (8 + j)
  rw [if_neg (by omega), Nat.add_sub_cancel_left] at this
  rw [Nat.add_comm]; simpa using this
theorem pcN_step (k : Nat) {b r : Nat} (hb : b < 256) : pcN (k + 1) (b + 256 * r) = pcb b + pcN k r := by
  unfold pcN pcb
  have e : List.range (8 * (k + 1)) = List.range 8 ++ (List.range (8 * k)).map (8 + ·) := by
    have h : 8 * (k + 1) = 8 + 8 * k := by omega
    rw [h, List.range_add]
  rw [e, List.filter_append, List.length_append, List.filter_map, List.length_map]
  congr 2
  · apply List.filter_congr
    intro j hj
    exact bit_lo r hb (List.mem_range.1 hj)
  · apply List.filter_congr
    intro j _
    exact bit_hi r hb j

theorem and_split {b c u v : Nat} (hb : b < 256) (hu : u < 256) : (b + 256 * c) &&& (u + 256 * v) = (b &&& u) + 256 * (c &&& v) := by
  have hbu : b &&& u < 256 := Nat.lt_of_le_of_lt Nat.and_le_left hb
  apply Nat.eq_of_testBit_eq
  intro j
  by_cases hj : j < 8
  · rw [Nat.testBit_and, bit_lo _ hb hj, bit_lo _ hu hj, bit_lo _ hbu hj, Nat.testBit_and]
  · obtain ⟨d, rfl⟩ : ∃ d, j = 8 + d := ⟨j - 8, by omega⟩
    rw [Nat.testBit_and, bit_hi _ hb, bit_hi _ hu, bit_hi _ hbu, Nat.testBit_and]
theorem and_top {c m v : Nat} (hc : c < 2 ^ 56) (h : ∀ j, j < 56 → m.testBit j = v.testBit j) : c &&& m = c &&& v := by
  apply Nat.eq_of_testBit_eq
  intro j
  rw [Nat.testBit_and, Nat.testBit_and]
  by_cases hj : j < 56
  · rw [h j hj]
  · have : c < 2 ^ j := Nat.lt_of_lt_of_le hc (Nat.pow_le_pow_right (by decide) (by omega))
    rw [Nat.testBit_lt_two_pow this]; simp

def F1 (x : Nat) : Nat := (x / 2 &&& 6148914691236517205) + (x &&& 6148914691236517205)
def F2 (x : Nat) : Nat := (x / 4 &&& 3689348814741910323) + (x &&& 3689348814741910323)
def F3 (x : Nat) : Nat := (x / 16 + x) &&& 1085102592571150095
def g1 (b : Nat) : Nat := (b / 2 &&& 85) + (b &&& 85)
def g2 (b : Nat) : Nat := (b / 4 &&& 51) + (b &&& 51)

theorem m0_top {c : Nat} (hc : c < 2 ^ 56) : c &&& 6148914691236517205 = c &&& 24019198012642645 := and_top hc (by decide)
theorem m1_top {c : Nat} (hc : c < 2 ^ 56) : c &&& 3689348814741910323 = c &&& 14411518807585587 := and_top hc (by decide)
theorem m2_top {c : Nat} (hc : c < 2 ^ 56) : c &&& 1085102592571150095 = c &&& 4238682002231055 := and_top hc (by decide)
theorem and_m0 {b c : Nat} (hb : b < 256) (hc : c < 2 ^ 56) : (b + 256 * c) &&& 6148914691236517205 = (b &&& 85) + 256 * (c &&& 6148914691236517205) := by
  rw [m0_top hc]; exact and_split (u := 85) (v := 24019198012642645) hb (by decide)
theorem and_m1 {b c : Nat} (hb : b < 256) (hc : c < 2 ^ 56) : (b + 256 * c) &&& 3689348814741910323 = (b &&& 51) + 256 * (c &&& 3689348814741910323) := by
  rw [m1_top hc]; exact and_split (u := 51) (v := 14411518807585587) hb (by decide)
theorem and_m2 {b c : Nat} (hb : b < 256) (hc : c < 2 ^ 56) : (b + 256 * c) &&& 1085102592571150095 = (b &&& 15) + 256 * (c &&& 1085102592571150095) := by
  rw [m2_top hc]; exact and_split (u := 15) (v := 4238682002231055) hb (by decide)
theorem t1 : ∀ b, b < 256 → ∀ t, t < 2 → (b / 2 + 128 * t) &&& 85 = b / 2 &&& 85 := by decide +kernel
theorem t2 : ∀ b, b < 256 → ∀ t, t < 4 → (b / 4 + 64 * t) &&& 51 = b / 4 &&& 51 := by decide +kernel
theorem F1_lt {r : Nat} (h : r < 2 ^ 56) : F1 r < 2 ^ 56 := by
  have h1 : r / 2 &&& 6148914691236517205 ≤ 24019198012642645 := by rw [m0_top (by omega)]; exact Nat.and_le_right
  have h2 : r &&& 6148914691236517205 ≤ 24019198012642645 := by rw [m0_top h]; exact Nat.and_le_right
  unfold F1; omega
theorem F2_le {r : Nat} (h : r < 2 ^ 56) : F2 r ≤ 28823037615171174 := by
  have h1 : r / 4 &&& 3689348814741910323 ≤ 14411518807585587 := by rw [m1_top (by omega)]; exact Nat.and_le_right
  have h2 : r &&& 3689348814741910323 ≤ 14411518807585587 := by rw [m1_top h]; exact Nat.and_le_right
  unfold F2; omega
theorem F1_step {b r : Nat} (hb : b < 256) (hr : r < 2 ^ 56) : F1 (b + 256 * r) = g1 b + 256 * F1 r := by
  have e : (b + 256 * r) / 2 = (b / 2 + 128 * (r % 2)) + 256 * (r / 2) := by omega
  unfold F1 g1
  rw [e, and_m0 (by omega) (by omega), and_m0 hb hr, t1 b hb _ (Nat.mod_lt _ (by decide))]
  omega
theorem F2_step {b r : Nat} (hb : b < 256) (hr : r < 2 ^ 56) : F2 (b + 256 * r) = g2 b + 256 * F2 r := by
  have e : (b + 256 * r) / 4 = (b / 4 + 64 * (r % 4)) + 256 * (r / 4) := by omega
  unfold F2 g2
  rw [e, and_m1 (by omega) (by omega), and_m1 hb hr, t2 b hb _ (Nat.mod_lt _ (by decide))]
  omega
theorem g_small : ∀ b, b < 256 → g1 b < 256 ∧ g2 (g1 b) ≤ 68 ∧ g2 (g1 b) % 16 ≤ 4 ∧ ∀ t, t ≤ 4 → (g2 (g1 b) / 16 + 16 * t + g2 (g1 b)) &&& 15 = pcb b := by decide +kernel
theorem pcb_le : ∀ b, b < 256 → pcb b ≤ 8 := by decide +kernel
def G (x : Nat) : Nat := F3 (F2 (F1 x))
theorem low_le {r : Nat} (hr : r < 2 ^ 56) : F2 (F1 r) % 16 ≤ 4 := by
  have e : r = r % 256 + 256 * (r / 256) := by omega
  obtain ⟨h1, _, h3, _⟩ := g_small (r % 256) (Nat.mod_lt _ (by decide))
  have hl := F1_lt (r := r / 256) (by omega)
  rw [e, F1_step (Nat.mod_lt _ (by decide)) (by omega), F2_step h1 hl]
  omega
theorem G_step {b r : Nat} (hb : b < 256) (hr : r < 2 ^ 56) : G (b + 256 * r) = pcb b + 256 * G r := by
  obtain ⟨h1, h2, h3, h4⟩ := g_small b hb
  have hl := F1_lt hr
  have h5 := F2_le hl
  have h6 := low_le hr
  unfold G
  rw [F1_step hb hr, F2_step h1 hl]
  generalize g2 (g1 b) = c at *
  generalize F2 (F1 r) = s at *
  have e : (c + 256 * s) / 16 + (c + 256 * s) = (c / 16 + 16 * (s % 16) + c) + 256 * (s / 16 + s) := by omega
  unfold F3
  rw [e, and_m2 (by omega) (by omega), h4 _ h6]
theorem pcN_zero (x : Nat) : pcN 0 x = 0 := by simp [pcN]
theorem G_zero : G 0 = 0 := by decide

theorem swar {p0 p1 p2 p3 p4 p5 p6 p7 y : Nat} (h0 : p0 ≤ 8) (h1 : p1 ≤ 8) (h2 : p2 ≤ 8) (h3 : p3 ≤ 8) (h4 : p4 ≤ 8) (h5 : p5 ≤ 8) (h6 : p6 ≤ 8) (h7 : p7 ≤ 8)
    (hy : y = p0 + 256 * (p1 + 256 * (p2 + 256 * (p3 + 256 * (p4 + 256 * (p5 + 256 * (p6 + 256 * p7))))))) :
    y + y / 256 + (y + y / 256) / 65536 + (y + y / 256 + (y + y / 256) / 65536) / 4294967296 < 9223372036854775808 ∧
    (y + y / 256 + (y + y / 256) / 65536 + (y + y / 256 + (y + y / 256) / 65536) / 4294967296) % 128 = p0 + p1 + p2 + p3 + p4 + p5 + p6 + p7 := by
  have e1 : y / 256 = p1 + 256 * (p2 + 256 * (p3 + 256 * (p4 + 256 * (p5 + 256 * (p6 + 256 * p7))))) := by omega
  obtain ⟨z, hz⟩ : ∃ z, z = y + y / 256 := ⟨_, rfl⟩
  rw [← hz]
  have e2 : z = (p0 + p1) + 256 * ((p1 + p2) + 256 * ((p2 + p3) + 256 * ((p3 + p4) + 256 * ((p4 + p5) + 256 * ((p5 + p6) + 256 * ((p6 + p7) + 256 * p7)))))) := by omega
  have e3 : z / 65536 = (p2 + p3) + 256 * ((p3 + p4) + 256 * ((p4 + p5) + 256 * ((p5 + p6) + 256 * ((p6 + p7) + 256 * p7)))) := by omega
  obtain ⟨u, hu⟩ : ∃ u, u = z + z / 65536 := ⟨_, rfl⟩
  rw [← hu]
  have e4 : u = (p0 + p1 + p2 + p3) + 256 * ((p1 + p2 + p3 + p4) + 256 * ((p2 + p3 + p4 + p5) + 256 * ((p3 + p4 + p5 + p6) + 256 * ((p4 + p5 + p6 + p7) + 256 * ((p5 + p6 + p7) + 256 * ((p6 + p7) + 256 * p7)))))) := by omega
  have e5 : u / 4294967296 = (p4 + p5 + p6 + p7) + 256 * ((p5 + p6 + p7) + 256 * ((p6 + p7) + 256 * p7)) := by omega
  clear hz hu e1 e2 e3 hy
  constructor
  · omega
  · omega

/-- What OnesCount64's last three sums make of the byte sums: the number of one bits. -/
theorem ones (x : Nat) (hx : x < 2 ^ 64) :
    G x + G x / 256 + (G x + G x / 256) / 65536 + (G x + G x / 256 + (G x + G x / 256) / 65536) / 4294967296 < 9223372036854775808 ∧
    (G x + G x / 256 + (G x + G x / 256) / 65536 + (G x + G x / 256 + (G x + G x / 256) / 65536) / 4294967296) % 128 = pc x := by
  have m (k : Nat) : x / 256 ^ k % 256 < 256 := Nat.mod_lt _ (by decide)
  have s (k : Nat) : x / 256 ^ k = x / 256 ^ k % 256 + 256 * (x / 256 ^ (k + 1)) := by
    rw [Nat.pow_succ, ← Nat.div_div_eq_div_mul]; omega
  have l (k : Nat) : x / 256 ^ (k + 1) < 2 ^ 56 := by
    rw [Nat.pow_succ, Nat.mul_comm, ← Nat.div_div_eq_div_mul]
    exact Nat.lt_of_le_of_lt (Nat.div_le_self _ _) (by omega)
  have g (k : Nat) : G (x / 256 ^ k) = pcb (x / 256 ^ k % 256) + 256 * G (x / 256 ^ (k + 1)) := by
    have hm := m k
    have e := s k
    generalize x / 256 ^ k % 256 = b at *
    rw [e]; exact G_step hm (l k)
  have q (k i : Nat) : pcN (i + 1) (x / 256 ^ k) = pcb (x / 256 ^ k % 256) + pcN i (x / 256 ^ (k + 1)) := by
    have hm := m k
    have e := s k
    generalize x / 256 ^ k % 256 = b at *
    rw [e]; exact pcN_step i hm
  have z : x / 256 ^ 8 = 0 := by omega
  have hy : G x = pcb (x / 256 ^ 0 % 256) + 256 * (pcb (x / 256 ^ 1 % 256) + 256 * (pcb (x / 256 ^ 2 % 256) + 256 * (pcb (x / 256 ^ 3 % 256) + 256 * (pcb (x / 256 ^ 4 % 256) + 256 * (pcb (x / 256 ^ 5 % 256) + 256 * (pcb (x / 256 ^ 6 % 256) + 256 * (pcb (x / 256 ^ 7 % 256)))))))) := by
    have e0 : G x = G (x / 256 ^ 0) := by simp
    rw [e0, g 0, g 1, g 2, g 3, g 4, g 5, g 6, g 7, z, G_zero, Nat.mul_zero, Nat.add_zero]
  have hc : pc x = pcb (x / 256 ^ 0 % 256) + pcb (x / 256 ^ 1 % 256) + pcb (x / 256 ^ 2 % 256) + pcb (x / 256 ^ 3 % 256) + pcb (x / 256 ^ 4 % 256) + pcb (x / 256 ^ 5 % 256) + pcb (x / 256 ^ 6 % 256) + pcb (x / 256 ^ 7 % 256) := by
    have e0 : pc x = pcN 8 (x / 256 ^ 0) := by rw [pc_eq]; simp
    rw [e0, q 0 7, q 1 6, q 2 5, q 3 4, q 4 3, q 5 2, q 6 1, q 7 0, pcN_zero]
    omega
  rw [hc]
  exact swar (pcb_le _ (m 0)) (pcb_le _ (m 1)) (pcb_le _ (m 2)) (pcb_le _ (m 3)) (pcb_le _ (m 4)) (pcb_le _ (m 5)) (pcb_le _ (m 6)) (pcb_le _ (m 7)) hy
end Go.Proofs.YtaenemdclmnnaaaDoor
