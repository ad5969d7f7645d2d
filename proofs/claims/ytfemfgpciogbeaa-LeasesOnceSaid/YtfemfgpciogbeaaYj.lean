/- A move of the statements' desk, whatever it is; the helper played. -/
import Derived.Test.YtfemfgpciogbeaaYt
import Derived.Test.YtfemfgpciogbeaaYu
import Derived.Test.YtfemfgpciogbeaaYz
namespace Go.Proofs.Ytfemfgpciogbeaa
open Go.RowKit

theorem step_ok {w0 w : World} {X b k a cl cu n j : Nat} {pl pu : Option Addr} {okb : Bool} {S : Lw} (h : LW w0 w X b k a pl cl pu cu n okb j S) (hj : j ≤ 150) (mw mk mi mt : Nat) (m1 : mw ≤ 255) (m2 : mk ≤ 255) (m3 : mi ≤ 255) (m4 : mt ≤ 255) :
    Calls Try.prog 34 #[.pointer (some ⟨X, 0, none⟩), .agg #[.int .u8 mw, .int .u8 mk, .int .u8 mi, .int .u8 mt]] w fun e w' => e = .returned (.bool true) ∧ Hid (StP w0 w X b k a pl pu okb (j + 1) S w') := by
  by_cases hk : mk % 4 < 2 ∨ n = 0
  · cases hf : S.D.t.free with
    | nil => exact step_full h hj mw mk mi mt m1 m2 m3 m4 hk hf
    | cons i q => exact step_grant h hj mw mk mi mt m1 m2 m3 m4 hk i q hf
  · have hn0 : 0 < n := by omega
    have hKn : mi % n < n := Nat.mod_lt _ hn0
    obtain ⟨r, u, hr, hu, _⟩ := h.ok.at (k := mi % n) (by rw [h.ln]; exact hKn)
    have h4 : mk % 4 < 4 := Nat.mod_lt _ (by decide)
    by_cases h2 : mk % 4 = 2
    · rcases Nat.eq_zero_or_pos u with c | c
      · exact step_ret0 h hj mw mk mi mt m1 m2 m3 m4 h2 (mi % n) u r rfl hn0 hr hu c
      · exact step_ret1 h hj mw mk mi mt m1 m2 m3 m4 h2 (mi % n) u r rfl hn0 hr hu c
    · have h3 : mk % 4 = 3 := by omega
      rcases Nat.eq_zero_or_pos u with c | c
      · exact step_ren0 h hj mw mk mi mt m1 m2 m3 m4 h3 (mi % n) u r rfl hn0 hr hu c
      · by_cases hov : u ≤ S.now + mw % 8
        · exact step_ren8 h hj mw mk mi mt m1 m2 m3 m4 h3 (mi % n) u r rfl hn0 hr hu c hov
        · exact step_renk h hj mw mk mi mt m1 m2 m3 m4 h3 (mi % n) u r rfl hn0 hr hu c (by omega)

/-! ### played -/
/-- A desk's size, and how great its generations are at most. -/
def Gn (D : Dk) (m q : Nat) : Prop := D.t.n = m ∧ ∀ i, D.t.g i ≤ q
theorem Gn.step {D E : Dk} {m q : Nat} (h : Gn D m q) (he : Ev D E) : Gn E m (q + 1) := ⟨he.1.trans h.1, fun i => Nat.le_trans (he.2 i) (Nat.succ_le_succ (h.2 i))⟩
theorem Gn.fresh (n g : Nat) : Gn (dfresh n g) n (g + 0) := ⟨rfl, fun i => by
  show (if i < n then g else 0) ≤ g
  split <;> omega⟩
/-- The statements' desk behind its moves. -/
def PlV (w : World) (j m f : Nat) (e : Ending) (w' : World) : Prop := ∃ X, e = .returned (.pointer (some ⟨X, 0, none⟩)) ∧ Hid (∃ b k a pl cl pu cu n S, LW w w' X b k a pl cl pu cu n true j S ∧ Gn S.D m (f + j))
theorem LW.begin {w w1 : World} {b n g : Nat} (h1 : 1 ≤ n) (h2 : n ≤ 64) (h3 : 1 ≤ g) (h4 : g ≤ 4294967295) (h : DNew (dfresh n g) w b w1) :
    ∃ k a, LW w (w1.alloc (.cells #[.pointer (some ⟨b, 0, none⟩), .slice none 0 0, .slice none 0 0, .int .i64 0, .bool true] 62)) w1.heap.size b k a none 0 none 0 0 true 0 ⟨dfresh n g, [], [], 0⟩ := by
  obtain ⟨k, a, hs⟩ := DSt.new h
  exact ⟨k, a, Lw.Ok.begin h1 h2 h3 h4, rfl, hs.quiet (bal _ _), Bk.new w1 _ _, World.ownsRow_nil _ _ _ _, World.ownsRow_nil _ _ _ _, hs.bel.size⟩
set_option maxRecDepth 100000 in
set_option maxHeartbeats 8000000 in
theorem played_of (x0 x1 : Int) (p : Option Addr) (len cap N f : Nat) (m : Nat → Mv) (w : World) (h00 : 0 ≤ x0) (h01 : x0 ≤ 255) (hf : (x1 = 0 ∧ f = 1) ∨ (x1 = 1 ∧ f = 1) ∨ (1 < x1 ∧ x1 = f)) (hf1 : 1 ≤ f) (hf2 : f ≤ 4294967295) (hN : (len < 100 ∧ N = len) ∨ (len = 100 ∧ N = 100) ∨ (100 < len ∧ N = 100)) (hlc : len ≤ cap) (hcap : cap ≤ 9223372036854775807) (hu : Mvs w p len m) :
    Calls Try.prog 30 #[.int .u8 x0, .int .u32 x1, .slice p len cap] w (PlV w N (1 + x0 % 64).toNat f) := by
  obtain ⟨n, hn⟩ : ∃ n : Nat, 1 + x0 % 64 = (n : Int) := ⟨(1 + x0 % 64).toNat, by omega⟩
  obtain ⟨M0, hM0⟩ : ∃ m : Nat, (1 + x0 % 64).toNat = m := ⟨_, rfl⟩
  rw [hM0]
  have HM : Hid (n = M0) := by unfold Hid; omega
  clear hM0
  have hn2 : (n : Int) ≤ 64 := by omega
  have hn1 : (1 : Int) ≤ n := by omega
  have h5 : 0 ≤ x0 % 64 ∧ x0 % 64 ≤ 63 := by omega
  obtain ⟨h6, h7⟩ := h5
  have NW := Lib.hid (dnew_ok n f w (by omega) (by omega) hf1 hf2)
  have HF : Hid (1 ≤ n ∧ n ≤ 64 ∧ 1 ≤ f ∧ f ≤ 4294967295) := ⟨by omega, by omega, hf1, hf2⟩
  have HU := Lib.hid hu
  have hlz : (len : Int) ≤ cap := by omega
  have hlcap : (len : Int) ≤ 9223372036854775807 := by omega
  clear hu hf1 hf2
  rcases hf with ⟨rfl, rfl⟩ | ⟨rfl, rfl⟩ | ⟨hx, rfl⟩
  · rcases hN with ⟨hN, rfl⟩ | ⟨rfl, rfl⟩ | ⟨hN, rfl⟩
    · have hNz : (N : Int) < 100 := by omega
      go_enter Try.func30, Try.ntmps30
      go_wp2_with (go_at_call 11; refine NW.out.mono ?_; rintro e w1 ⟨b, rfl, hd⟩; have HD := Lib.hid hd; clear hd)
      have LB : Hid (∃ b' k a pl cl pu cu n S, LW w (w1.alloc (.cells #[.pointer (some ⟨b, 0, none⟩), .slice none 0 0, .slice none 0 0, .int .i64 0, .bool true] 62)) w1.heap.size b' k a pl cl pu cu n true 0 S ∧ Gn S.D M0 (1 + 0)) := by
        obtain ⟨k, a, hb⟩ := LW.begin HF.out.1 HF.out.2.1 HF.out.2.2.1 HF.out.2.2.2 HD.out
        exact ⟨b, k, a, _, _, _, _, _, _, hb, by rw [← HM.out]; exact Gn.fresh _ _⟩
      clear HM NW HD HF hn hn1 hn2 h6 h7 h00 h01
      generalize w1.alloc (.cells #[.pointer (some ⟨b, 0, none⟩), .slice none 0 0, .slice none 0 0, .int .i64 0, .bool true] 62) = w2 at *
      generalize w1.heap.size = X at *
      go_loopw [33] (fun v wr => ∃ j : Nat, j ≤ N ∧ v = .int .i64 j ∧ Hid (∃ b k a pl cl pu cu n S, LW w wr X b k a pl cl pu cu n true j S ∧ Gn S.D M0 (1 + j))) (fun v _ => N - (intOf v).toNat)
      case atStart => exact ⟨0, Nat.zero_le _, rfl, LB.out⟩
      case round =>
        obtain ⟨j, hj, rfl, HL⟩ := hrel
        clear LB
        by_cases hlt : j < N
        · obtain ⟨b', k, a, pl, cl, pu, cu, n', S, hl, hgn⟩ := HL.out
          have HG := Lib.hid hgn
          obtain ⟨B, off, rfl, hB, hcells⟩ := (HU.out.below hl.bel).at_ (show 0 < N by omega)
          obtain ⟨m0, m1, m2, m3⟩ := hcells j (by omega)
          obtain ⟨r1, r2, r3, r4⟩ := HU.out.bd j (by omega)
          generalize m j = M at *
          obtain ⟨mw, mk, mi, mt⟩ := M
          simp only at m0 m1 m2 m3 r1 r2 r3 r4
          have hl2 := hl.quiet (bal wr (.cells #[.int .u8 mw, .int .u8 mk, .int .u8 mi, .int .u8 mt] 68))
          have ST := Lib.hid (step_ok hl2 (by omega) mw mk mi mt r1 r2 r3 r4)
          obtain ⟨_, _, _, _, c4, c5⟩ := hl2.cells
          have NX : Hid (∀ W, StP w (wr.alloc (.cells #[.int .u8 mw, .int .u8 mk, .int .u8 mi, .int .u8 mt] 68)) X b' k a pl pu true (j + 1) S W → (W.cell? ⟨X, 4, none⟩ = some (.bool true) ∧ W.frozen? ⟨X, 4, none⟩ = false ∧ X < W.heap.size) ∧ Hid (∃ b k a pl cl pu cu n S, LW w (W.setCell ⟨X, 4, none⟩ (.bool true)) X b k a pl cl pu cu n true (j + 1) S ∧ Gn S.D M0 (1 + (j + 1)))) := fun W h => by
            obtain ⟨⟨pl', cl', pu', cu', n2, S', h1, _, he⟩, _⟩ := h
            obtain ⟨_, _, _, _, d4, d5⟩ := h1.cells
            exact ⟨⟨d4, h1.fz 4, d5⟩, b', k, a, pl', cl', pu', cu', n2, S', h1.setok, HG.out.step he⟩
          clear hgn hl hl2 hcells HL r1 r2 r3 r4
          go_wp2_with (go_at_call 34; refine ST.out.mono ?_; rintro e w5 ⟨rfl, HS⟩; obtain ⟨⟨d4, d5, d6⟩, HN⟩ := NX.out w5 HS.out)
          go_roundw
          case rel => exact ⟨j + 1, by omega, by go_num, HN.out⟩
          case measure => simp [intOf]; omega
        · obtain rfl : j = N := by omega
          clear hlt hj
          go_wp2
          go_ret
          exact ⟨X, rfl, HL⟩
    · go_enter Try.func30, Try.ntmps30
      go_wp2_with (go_at_call 11; refine NW.out.mono ?_; rintro e w1 ⟨b, rfl, hd⟩; have HD := Lib.hid hd; clear hd)
      have LB : Hid (∃ b' k a pl cl pu cu n S, LW w (w1.alloc (.cells #[.pointer (some ⟨b, 0, none⟩), .slice none 0 0, .slice none 0 0, .int .i64 0, .bool true] 62)) w1.heap.size b' k a pl cl pu cu n true 0 S ∧ Gn S.D M0 (1 + 0)) := by
        obtain ⟨k, a, hb⟩ := LW.begin HF.out.1 HF.out.2.1 HF.out.2.2.1 HF.out.2.2.2 HD.out
        exact ⟨b, k, a, _, _, _, _, _, _, hb, by rw [← HM.out]; exact Gn.fresh _ _⟩
      clear HM NW HD HF hn hn1 hn2 h6 h7 h00 h01
      generalize w1.alloc (.cells #[.pointer (some ⟨b, 0, none⟩), .slice none 0 0, .slice none 0 0, .int .i64 0, .bool true] 62) = w2 at *
      generalize w1.heap.size = X at *
      go_loopw [33] (fun v wr => ∃ j : Nat, j ≤ 100 ∧ v = .int .i64 j ∧ Hid (∃ b k a pl cl pu cu n S, LW w wr X b k a pl cl pu cu n true j S ∧ Gn S.D M0 (1 + j))) (fun v _ => 100 - (intOf v).toNat)
      case atStart => exact ⟨0, Nat.zero_le _, rfl, LB.out⟩
      case round =>
        obtain ⟨j, hj, rfl, HL⟩ := hrel
        clear LB
        by_cases hlt : j < 100
        · obtain ⟨b', k, a, pl, cl, pu, cu, n', S, hl, hgn⟩ := HL.out
          have HG := Lib.hid hgn
          obtain ⟨B, off, rfl, hB, hcells⟩ := (HU.out.below hl.bel).at_ (show 0 < 100 by omega)
          obtain ⟨m0, m1, m2, m3⟩ := hcells j (by omega)
          obtain ⟨r1, r2, r3, r4⟩ := HU.out.bd j (by omega)
          generalize m j = M at *
          obtain ⟨mw, mk, mi, mt⟩ := M
          simp only at m0 m1 m2 m3 r1 r2 r3 r4
          have hl2 := hl.quiet (bal wr (.cells #[.int .u8 mw, .int .u8 mk, .int .u8 mi, .int .u8 mt] 68))
          have ST := Lib.hid (step_ok hl2 (by omega) mw mk mi mt r1 r2 r3 r4)
          obtain ⟨_, _, _, _, c4, c5⟩ := hl2.cells
          have NX : Hid (∀ W, StP w (wr.alloc (.cells #[.int .u8 mw, .int .u8 mk, .int .u8 mi, .int .u8 mt] 68)) X b' k a pl pu true (j + 1) S W → (W.cell? ⟨X, 4, none⟩ = some (.bool true) ∧ W.frozen? ⟨X, 4, none⟩ = false ∧ X < W.heap.size) ∧ Hid (∃ b k a pl cl pu cu n S, LW w (W.setCell ⟨X, 4, none⟩ (.bool true)) X b k a pl cl pu cu n true (j + 1) S ∧ Gn S.D M0 (1 + (j + 1)))) := fun W h => by
            obtain ⟨⟨pl', cl', pu', cu', n2, S', h1, _, he⟩, _⟩ := h
            obtain ⟨_, _, _, _, d4, d5⟩ := h1.cells
            exact ⟨⟨d4, h1.fz 4, d5⟩, b', k, a, pl', cl', pu', cu', n2, S', h1.setok, HG.out.step he⟩
          clear hgn hl hl2 hcells HL r1 r2 r3 r4
          go_wp2_with (go_at_call 34; refine ST.out.mono ?_; rintro e w5 ⟨rfl, HS⟩; obtain ⟨⟨d4, d5, d6⟩, HN⟩ := NX.out w5 HS.out)
          go_roundw
          case rel => exact ⟨j + 1, by omega, by go_num, HN.out⟩
          case measure => simp [intOf]; omega
        · obtain rfl : j = 100 := by omega
          clear hlt hj
          go_wp2
          go_ret
          exact ⟨X, rfl, HL⟩
    · have hNz : (100 : Int) < len := by omega
      go_enter Try.func30, Try.ntmps30
      go_wp2_with (go_at_call 11; refine NW.out.mono ?_; rintro e w1 ⟨b, rfl, hd⟩; have HD := Lib.hid hd; clear hd)
      have LB : Hid (∃ b' k a pl cl pu cu n S, LW w (w1.alloc (.cells #[.pointer (some ⟨b, 0, none⟩), .slice none 0 0, .slice none 0 0, .int .i64 0, .bool true] 62)) w1.heap.size b' k a pl cl pu cu n true 0 S ∧ Gn S.D M0 (1 + 0)) := by
        obtain ⟨k, a, hb⟩ := LW.begin HF.out.1 HF.out.2.1 HF.out.2.2.1 HF.out.2.2.2 HD.out
        exact ⟨b, k, a, _, _, _, _, _, _, hb, by rw [← HM.out]; exact Gn.fresh _ _⟩
      clear HM NW HD HF hn hn1 hn2 h6 h7 h00 h01
      generalize w1.alloc (.cells #[.pointer (some ⟨b, 0, none⟩), .slice none 0 0, .slice none 0 0, .int .i64 0, .bool true] 62) = w2 at *
      generalize w1.heap.size = X at *
      go_loopw [33] (fun v wr => ∃ j : Nat, j ≤ 100 ∧ v = .int .i64 j ∧ Hid (∃ b k a pl cl pu cu n S, LW w wr X b k a pl cl pu cu n true j S ∧ Gn S.D M0 (1 + j))) (fun v _ => 100 - (intOf v).toNat)
      case atStart => exact ⟨0, Nat.zero_le _, rfl, LB.out⟩
      case round =>
        obtain ⟨j, hj, rfl, HL⟩ := hrel
        clear LB
        by_cases hlt : j < 100
        · obtain ⟨b', k, a, pl, cl, pu, cu, n', S, hl, hgn⟩ := HL.out
          have HG := Lib.hid hgn
          obtain ⟨B, off, rfl, hB, hcells⟩ := (HU.out.below hl.bel).at_ (show 0 < len by omega)
          obtain ⟨m0, m1, m2, m3⟩ := hcells j (by omega)
          obtain ⟨r1, r2, r3, r4⟩ := HU.out.bd j (by omega)
          generalize m j = M at *
          obtain ⟨mw, mk, mi, mt⟩ := M
          simp only at m0 m1 m2 m3 r1 r2 r3 r4
          have hl2 := hl.quiet (bal wr (.cells #[.int .u8 mw, .int .u8 mk, .int .u8 mi, .int .u8 mt] 68))
          have ST := Lib.hid (step_ok hl2 (by omega) mw mk mi mt r1 r2 r3 r4)
          obtain ⟨_, _, _, _, c4, c5⟩ := hl2.cells
          have NX : Hid (∀ W, StP w (wr.alloc (.cells #[.int .u8 mw, .int .u8 mk, .int .u8 mi, .int .u8 mt] 68)) X b' k a pl pu true (j + 1) S W → (W.cell? ⟨X, 4, none⟩ = some (.bool true) ∧ W.frozen? ⟨X, 4, none⟩ = false ∧ X < W.heap.size) ∧ Hid (∃ b k a pl cl pu cu n S, LW w (W.setCell ⟨X, 4, none⟩ (.bool true)) X b k a pl cl pu cu n true (j + 1) S ∧ Gn S.D M0 (1 + (j + 1)))) := fun W h => by
            obtain ⟨⟨pl', cl', pu', cu', n2, S', h1, _, he⟩, _⟩ := h
            obtain ⟨_, _, _, _, d4, d5⟩ := h1.cells
            exact ⟨⟨d4, h1.fz 4, d5⟩, b', k, a, pl', cl', pu', cu', n2, S', h1.setok, HG.out.step he⟩
          clear hgn hl hl2 hcells HL r1 r2 r3 r4
          go_wp2_with (go_at_call 34; refine ST.out.mono ?_; rintro e w5 ⟨rfl, HS⟩; obtain ⟨⟨d4, d5, d6⟩, HN⟩ := NX.out w5 HS.out)
          go_roundw
          case rel => exact ⟨j + 1, by omega, by go_num, HN.out⟩
          case measure => simp [intOf]; omega
        · obtain rfl : j = 100 := by omega
          clear hlt hj
          go_wp2
          go_ret
          exact ⟨X, rfl, HL⟩
  · rcases hN with ⟨hN, rfl⟩ | ⟨rfl, rfl⟩ | ⟨hN, rfl⟩
    · have hNz : (N : Int) < 100 := by omega
      go_enter Try.func30, Try.ntmps30
      go_wp2_with (go_at_call 11; refine NW.out.mono ?_; rintro e w1 ⟨b, rfl, hd⟩; have HD := Lib.hid hd; clear hd)
      have LB : Hid (∃ b' k a pl cl pu cu n S, LW w (w1.alloc (.cells #[.pointer (some ⟨b, 0, none⟩), .slice none 0 0, .slice none 0 0, .int .i64 0, .bool true] 62)) w1.heap.size b' k a pl cl pu cu n true 0 S ∧ Gn S.D M0 (1 + 0)) := by
        obtain ⟨k, a, hb⟩ := LW.begin HF.out.1 HF.out.2.1 HF.out.2.2.1 HF.out.2.2.2 HD.out
        exact ⟨b, k, a, _, _, _, _, _, _, hb, by rw [← HM.out]; exact Gn.fresh _ _⟩
      clear HM NW HD HF hn hn1 hn2 h6 h7 h00 h01
      generalize w1.alloc (.cells #[.pointer (some ⟨b, 0, none⟩), .slice none 0 0, .slice none 0 0, .int .i64 0, .bool true] 62) = w2 at *
      generalize w1.heap.size = X at *
      go_loopw [33] (fun v wr => ∃ j : Nat, j ≤ N ∧ v = .int .i64 j ∧ Hid (∃ b k a pl cl pu cu n S, LW w wr X b k a pl cl pu cu n true j S ∧ Gn S.D M0 (1 + j))) (fun v _ => N - (intOf v).toNat)
      case atStart => exact ⟨0, Nat.zero_le _, rfl, LB.out⟩
      case round =>
        obtain ⟨j, hj, rfl, HL⟩ := hrel
        clear LB
        by_cases hlt : j < N
        · obtain ⟨b', k, a, pl, cl, pu, cu, n', S, hl, hgn⟩ := HL.out
          have HG := Lib.hid hgn
          obtain ⟨B, off, rfl, hB, hcells⟩ := (HU.out.below hl.bel).at_ (show 0 < N by omega)
          obtain ⟨m0, m1, m2, m3⟩ := hcells j (by omega)
          obtain ⟨r1, r2, r3, r4⟩ := HU.out.bd j (by omega)
          generalize m j = M at *
          obtain ⟨mw, mk, mi, mt⟩ := M
          simp only at m0 m1 m2 m3 r1 r2 r3 r4
          have hl2 := hl.quiet (bal wr (.cells #[.int .u8 mw, .int .u8 mk, .int .u8 mi, .int .u8 mt] 68))
          have ST := Lib.hid (step_ok hl2 (by omega) mw mk mi mt r1 r2 r3 r4)
          obtain ⟨_, _, _, _, c4, c5⟩ := hl2.cells
          have NX : Hid (∀ W, StP w (wr.alloc (.cells #[.int .u8 mw, .int .u8 mk, .int .u8 mi, .int .u8 mt] 68)) X b' k a pl pu true (j + 1) S W → (W.cell? ⟨X, 4, none⟩ = some (.bool true) ∧ W.frozen? ⟨X, 4, none⟩ = false ∧ X < W.heap.size) ∧ Hid (∃ b k a pl cl pu cu n S, LW w (W.setCell ⟨X, 4, none⟩ (.bool true)) X b k a pl cl pu cu n true (j + 1) S ∧ Gn S.D M0 (1 + (j + 1)))) := fun W h => by
            obtain ⟨⟨pl', cl', pu', cu', n2, S', h1, _, he⟩, _⟩ := h
            obtain ⟨_, _, _, _, d4, d5⟩ := h1.cells
            exact ⟨⟨d4, h1.fz 4, d5⟩, b', k, a, pl', cl', pu', cu', n2, S', h1.setok, HG.out.step he⟩
          clear hgn hl hl2 hcells HL r1 r2 r3 r4
          go_wp2_with (go_at_call 34; refine ST.out.mono ?_; rintro e w5 ⟨rfl, HS⟩; obtain ⟨⟨d4, d5, d6⟩, HN⟩ := NX.out w5 HS.out)
          go_roundw
          case rel => exact ⟨j + 1, by omega, by go_num, HN.out⟩
          case measure => simp [intOf]; omega
        · obtain rfl : j = N := by omega
          clear hlt hj
          go_wp2
          go_ret
          exact ⟨X, rfl, HL⟩
    · go_enter Try.func30, Try.ntmps30
      go_wp2_with (go_at_call 11; refine NW.out.mono ?_; rintro e w1 ⟨b, rfl, hd⟩; have HD := Lib.hid hd; clear hd)
      have LB : Hid (∃ b' k a pl cl pu cu n S, LW w (w1.alloc (.cells #[.pointer (some ⟨b, 0, none⟩), .slice none 0 0, .slice none 0 0, .int .i64 0, .bool true] 62)) w1.heap.size b' k a pl cl pu cu n true 0 S ∧ Gn S.D M0 (1 + 0)) := by
        obtain ⟨k, a, hb⟩ := LW.begin HF.out.1 HF.out.2.1 HF.out.2.2.1 HF.out.2.2.2 HD.out
        exact ⟨b, k, a, _, _, _, _, _, _, hb, by rw [← HM.out]; exact Gn.fresh _ _⟩
      clear HM NW HD HF hn hn1 hn2 h6 h7 h00 h01
      generalize w1.alloc (.cells #[.pointer (some ⟨b, 0, none⟩), .slice none 0 0, .slice none 0 0, .int .i64 0, .bool true] 62) = w2 at *
      generalize w1.heap.size = X at *
      go_loopw [33] (fun v wr => ∃ j : Nat, j ≤ 100 ∧ v = .int .i64 j ∧ Hid (∃ b k a pl cl pu cu n S, LW w wr X b k a pl cl pu cu n true j S ∧ Gn S.D M0 (1 + j))) (fun v _ => 100 - (intOf v).toNat)
      case atStart => exact ⟨0, Nat.zero_le _, rfl, LB.out⟩
      case round =>
        obtain ⟨j, hj, rfl, HL⟩ := hrel
        clear LB
        by_cases hlt : j < 100
        · obtain ⟨b', k, a, pl, cl, pu, cu, n', S, hl, hgn⟩ := HL.out
          have HG := Lib.hid hgn
          obtain ⟨B, off, rfl, hB, hcells⟩ := (HU.out.below hl.bel).at_ (show 0 < 100 by omega)
          obtain ⟨m0, m1, m2, m3⟩ := hcells j (by omega)
          obtain ⟨r1, r2, r3, r4⟩ := HU.out.bd j (by omega)
          generalize m j = M at *
          obtain ⟨mw, mk, mi, mt⟩ := M
          simp only at m0 m1 m2 m3 r1 r2 r3 r4
          have hl2 := hl.quiet (bal wr (.cells #[.int .u8 mw, .int .u8 mk, .int .u8 mi, .int .u8 mt] 68))
          have ST := Lib.hid (step_ok hl2 (by omega) mw mk mi mt r1 r2 r3 r4)
          obtain ⟨_, _, _, _, c4, c5⟩ := hl2.cells
          have NX : Hid (∀ W, StP w (wr.alloc (.cells #[.int .u8 mw, .int .u8 mk, .int .u8 mi, .int .u8 mt] 68)) X b' k a pl pu true (j + 1) S W → (W.cell? ⟨X, 4, none⟩ = some (.bool true) ∧ W.frozen? ⟨X, 4, none⟩ = false ∧ X < W.heap.size) ∧ Hid (∃ b k a pl cl pu cu n S, LW w (W.setCell ⟨X, 4, none⟩ (.bool true)) X b k a pl cl pu cu n true (j + 1) S ∧ Gn S.D M0 (1 + (j + 1)))) := fun W h => by
            obtain ⟨⟨pl', cl', pu', cu', n2, S', h1, _, he⟩, _⟩ := h
            obtain ⟨_, _, _, _, d4, d5⟩ := h1.cells
            exact ⟨⟨d4, h1.fz 4, d5⟩, b', k, a, pl', cl', pu', cu', n2, S', h1.setok, HG.out.step he⟩
          clear hgn hl hl2 hcells HL r1 r2 r3 r4
          go_wp2_with (go_at_call 34; refine ST.out.mono ?_; rintro e w5 ⟨rfl, HS⟩; obtain ⟨⟨d4, d5, d6⟩, HN⟩ := NX.out w5 HS.out)
          go_roundw
          case rel => exact ⟨j + 1, by omega, by go_num, HN.out⟩
          case measure => simp [intOf]; omega
        · obtain rfl : j = 100 := by omega
          clear hlt hj
          go_wp2
          go_ret
          exact ⟨X, rfl, HL⟩
    · have hNz : (100 : Int) < len := by omega
      go_enter Try.func30, Try.ntmps30
      go_wp2_with (go_at_call 11; refine NW.out.mono ?_; rintro e w1 ⟨b, rfl, hd⟩; have HD := Lib.hid hd; clear hd)
      have LB : Hid (∃ b' k a pl cl pu cu n S, LW w (w1.alloc (.cells #[.pointer (some ⟨b, 0, none⟩), .slice none 0 0, .slice none 0 0, .int .i64 0, .bool true] 62)) w1.heap.size b' k a pl cl pu cu n true 0 S ∧ Gn S.D M0 (1 + 0)) := by
        obtain ⟨k, a, hb⟩ := LW.begin HF.out.1 HF.out.2.1 HF.out.2.2.1 HF.out.2.2.2 HD.out
        exact ⟨b, k, a, _, _, _, _, _, _, hb, by rw [← HM.out]; exact Gn.fresh _ _⟩
      clear HM NW HD HF hn hn1 hn2 h6 h7 h00 h01
      generalize w1.alloc (.cells #[.pointer (some ⟨b, 0, none⟩), .slice none 0 0, .slice none 0 0, .int .i64 0, .bool true] 62) = w2 at *
      generalize w1.heap.size = X at *
      go_loopw [33] (fun v wr => ∃ j : Nat, j ≤ 100 ∧ v = .int .i64 j ∧ Hid (∃ b k a pl cl pu cu n S, LW w wr X b k a pl cl pu cu n true j S ∧ Gn S.D M0 (1 + j))) (fun v _ => 100 - (intOf v).toNat)
      case atStart => exact ⟨0, Nat.zero_le _, rfl, LB.out⟩
      case round =>
        obtain ⟨j, hj, rfl, HL⟩ := hrel
        clear LB
        by_cases hlt : j < 100
        · obtain ⟨b', k, a, pl, cl, pu, cu, n', S, hl, hgn⟩ := HL.out
          have HG := Lib.hid hgn
          obtain ⟨B, off, rfl, hB, hcells⟩ := (HU.out.below hl.bel).at_ (show 0 < len by omega)
          obtain ⟨m0, m1, m2, m3⟩ := hcells j (by omega)
          obtain ⟨r1, r2, r3, r4⟩ := HU.out.bd j (by omega)
          generalize m j = M at *
          obtain ⟨mw, mk, mi, mt⟩ := M
          simp only at m0 m1 m2 m3 r1 r2 r3 r4
          have hl2 := hl.quiet (bal wr (.cells #[.int .u8 mw, .int .u8 mk, .int .u8 mi, .int .u8 mt] 68))
          have ST := Lib.hid (step_ok hl2 (by omega) mw mk mi mt r1 r2 r3 r4)
          obtain ⟨_, _, _, _, c4, c5⟩ := hl2.cells
          have NX : Hid (∀ W, StP w (wr.alloc (.cells #[.int .u8 mw, .int .u8 mk, .int .u8 mi, .int .u8 mt] 68)) X b' k a pl pu true (j + 1) S W → (W.cell? ⟨X, 4, none⟩ = some (.bool true) ∧ W.frozen? ⟨X, 4, none⟩ = false ∧ X < W.heap.size) ∧ Hid (∃ b k a pl cl pu cu n S, LW w (W.setCell ⟨X, 4, none⟩ (.bool true)) X b k a pl cl pu cu n true (j + 1) S ∧ Gn S.D M0 (1 + (j + 1)))) := fun W h => by
            obtain ⟨⟨pl', cl', pu', cu', n2, S', h1, _, he⟩, _⟩ := h
            obtain ⟨_, _, _, _, d4, d5⟩ := h1.cells
            exact ⟨⟨d4, h1.fz 4, d5⟩, b', k, a, pl', cl', pu', cu', n2, S', h1.setok, HG.out.step he⟩
          clear hgn hl hl2 hcells HL r1 r2 r3 r4
          go_wp2_with (go_at_call 34; refine ST.out.mono ?_; rintro e w5 ⟨rfl, HS⟩; obtain ⟨⟨d4, d5, d6⟩, HN⟩ := NX.out w5 HS.out)
          go_roundw
          case rel => exact ⟨j + 1, by omega, by go_num, HN.out⟩
          case measure => simp [intOf]; omega
        · obtain rfl : j = 100 := by omega
          clear hlt hj
          go_wp2
          go_ret
          exact ⟨X, rfl, HL⟩
  · rcases hN with ⟨hN, rfl⟩ | ⟨rfl, rfl⟩ | ⟨hN, rfl⟩
    · have hNz : (N : Int) < 100 := by omega
      go_enter Try.func30, Try.ntmps30
      go_wp2_with (go_at_call 11; refine NW.out.mono ?_; rintro e w1 ⟨b, rfl, hd⟩; have HD := Lib.hid hd; clear hd)
      have LB : Hid (∃ b' k a pl cl pu cu n S, LW w (w1.alloc (.cells #[.pointer (some ⟨b, 0, none⟩), .slice none 0 0, .slice none 0 0, .int .i64 0, .bool true] 62)) w1.heap.size b' k a pl cl pu cu n true 0 S ∧ Gn S.D M0 (f + 0)) := by
        obtain ⟨k, a, hb⟩ := LW.begin HF.out.1 HF.out.2.1 HF.out.2.2.1 HF.out.2.2.2 HD.out
        exact ⟨b, k, a, _, _, _, _, _, _, hb, by rw [← HM.out]; exact Gn.fresh _ _⟩
      clear HM NW HD HF hn hn1 hn2 h6 h7 h00 h01
      generalize w1.alloc (.cells #[.pointer (some ⟨b, 0, none⟩), .slice none 0 0, .slice none 0 0, .int .i64 0, .bool true] 62) = w2 at *
      generalize w1.heap.size = X at *
      go_loopw [33] (fun v wr => ∃ j : Nat, j ≤ N ∧ v = .int .i64 j ∧ Hid (∃ b k a pl cl pu cu n S, LW w wr X b k a pl cl pu cu n true j S ∧ Gn S.D M0 (f + j))) (fun v _ => N - (intOf v).toNat)
      case atStart => exact ⟨0, Nat.zero_le _, rfl, LB.out⟩
      case round =>
        obtain ⟨j, hj, rfl, HL⟩ := hrel
        clear LB
        by_cases hlt : j < N
        · obtain ⟨b', k, a, pl, cl, pu, cu, n', S, hl, hgn⟩ := HL.out
          have HG := Lib.hid hgn
          obtain ⟨B, off, rfl, hB, hcells⟩ := (HU.out.below hl.bel).at_ (show 0 < N by omega)
          obtain ⟨m0, m1, m2, m3⟩ := hcells j (by omega)
          obtain ⟨r1, r2, r3, r4⟩ := HU.out.bd j (by omega)
          generalize m j = M at *
          obtain ⟨mw, mk, mi, mt⟩ := M
          simp only at m0 m1 m2 m3 r1 r2 r3 r4
          have hl2 := hl.quiet (bal wr (.cells #[.int .u8 mw, .int .u8 mk, .int .u8 mi, .int .u8 mt] 68))
          have ST := Lib.hid (step_ok hl2 (by omega) mw mk mi mt r1 r2 r3 r4)
          obtain ⟨_, _, _, _, c4, c5⟩ := hl2.cells
          have NX : Hid (∀ W, StP w (wr.alloc (.cells #[.int .u8 mw, .int .u8 mk, .int .u8 mi, .int .u8 mt] 68)) X b' k a pl pu true (j + 1) S W → (W.cell? ⟨X, 4, none⟩ = some (.bool true) ∧ W.frozen? ⟨X, 4, none⟩ = false ∧ X < W.heap.size) ∧ Hid (∃ b k a pl cl pu cu n S, LW w (W.setCell ⟨X, 4, none⟩ (.bool true)) X b k a pl cl pu cu n true (j + 1) S ∧ Gn S.D M0 (f + (j + 1)))) := fun W h => by
            obtain ⟨⟨pl', cl', pu', cu', n2, S', h1, _, he⟩, _⟩ := h
            obtain ⟨_, _, _, _, d4, d5⟩ := h1.cells
            exact ⟨⟨d4, h1.fz 4, d5⟩, b', k, a, pl', cl', pu', cu', n2, S', h1.setok, HG.out.step he⟩
          clear hgn hl hl2 hcells HL r1 r2 r3 r4
          go_wp2_with (go_at_call 34; refine ST.out.mono ?_; rintro e w5 ⟨rfl, HS⟩; obtain ⟨⟨d4, d5, d6⟩, HN⟩ := NX.out w5 HS.out)
          go_roundw
          case rel => exact ⟨j + 1, by omega, by go_num, HN.out⟩
          case measure => simp [intOf]; omega
        · obtain rfl : j = N := by omega
          clear hlt hj
          go_wp2
          go_ret
          exact ⟨X, rfl, HL⟩
    · go_enter Try.func30, Try.ntmps30
      go_wp2_with (go_at_call 11; refine NW.out.mono ?_; rintro e w1 ⟨b, rfl, hd⟩; have HD := Lib.hid hd; clear hd)
      have LB : Hid (∃ b' k a pl cl pu cu n S, LW w (w1.alloc (.cells #[.pointer (some ⟨b, 0, none⟩), .slice none 0 0, .slice none 0 0, .int .i64 0, .bool true] 62)) w1.heap.size b' k a pl cl pu cu n true 0 S ∧ Gn S.D M0 (f + 0)) := by
        obtain ⟨k, a, hb⟩ := LW.begin HF.out.1 HF.out.2.1 HF.out.2.2.1 HF.out.2.2.2 HD.out
        exact ⟨b, k, a, _, _, _, _, _, _, hb, by rw [← HM.out]; exact Gn.fresh _ _⟩
      clear HM NW HD HF hn hn1 hn2 h6 h7 h00 h01
      generalize w1.alloc (.cells #[.pointer (some ⟨b, 0, none⟩), .slice none 0 0, .slice none 0 0, .int .i64 0, .bool true] 62) = w2 at *
      generalize w1.heap.size = X at *
      go_loopw [33] (fun v wr => ∃ j : Nat, j ≤ 100 ∧ v = .int .i64 j ∧ Hid (∃ b k a pl cl pu cu n S, LW w wr X b k a pl cl pu cu n true j S ∧ Gn S.D M0 (f + j))) (fun v _ => 100 - (intOf v).toNat)
      case atStart => exact ⟨0, Nat.zero_le _, rfl, LB.out⟩
      case round =>
        obtain ⟨j, hj, rfl, HL⟩ := hrel
        clear LB
        by_cases hlt : j < 100
        · obtain ⟨b', k, a, pl, cl, pu, cu, n', S, hl, hgn⟩ := HL.out
          have HG := Lib.hid hgn
          obtain ⟨B, off, rfl, hB, hcells⟩ := (HU.out.below hl.bel).at_ (show 0 < 100 by omega)
          obtain ⟨m0, m1, m2, m3⟩ := hcells j (by omega)
          obtain ⟨r1, r2, r3, r4⟩ := HU.out.bd j (by omega)
          generalize m j = M at *
          obtain ⟨mw, mk, mi, mt⟩ := M
          simp only at m0 m1 m2 m3 r1 r2 r3 r4
          have hl2 := hl.quiet (bal wr (.cells #[.int .u8 mw, .int .u8 mk, .int .u8 mi, .int .u8 mt] 68))
          have ST := Lib.hid (step_ok hl2 (by omega) mw mk mi mt r1 r2 r3 r4)
          obtain ⟨_, _, _, _, c4, c5⟩ := hl2.cells
          have NX : Hid (∀ W, StP w (wr.alloc (.cells #[.int .u8 mw, .int .u8 mk, .int .u8 mi, .int .u8 mt] 68)) X b' k a pl pu true (j + 1) S W → (W.cell? ⟨X, 4, none⟩ = some (.bool true) ∧ W.frozen? ⟨X, 4, none⟩ = false ∧ X < W.heap.size) ∧ Hid (∃ b k a pl cl pu cu n S, LW w (W.setCell ⟨X, 4, none⟩ (.bool true)) X b k a pl cl pu cu n true (j + 1) S ∧ Gn S.D M0 (f + (j + 1)))) := fun W h => by
            obtain ⟨⟨pl', cl', pu', cu', n2, S', h1, _, he⟩, _⟩ := h
            obtain ⟨_, _, _, _, d4, d5⟩ := h1.cells
            exact ⟨⟨d4, h1.fz 4, d5⟩, b', k, a, pl', cl', pu', cu', n2, S', h1.setok, HG.out.step he⟩
          clear hgn hl hl2 hcells HL r1 r2 r3 r4
          go_wp2_with (go_at_call 34; refine ST.out.mono ?_; rintro e w5 ⟨rfl, HS⟩; obtain ⟨⟨d4, d5, d6⟩, HN⟩ := NX.out w5 HS.out)
          go_roundw
          case rel => exact ⟨j + 1, by omega, by go_num, HN.out⟩
          case measure => simp [intOf]; omega
        · obtain rfl : j = 100 := by omega
          clear hlt hj
          go_wp2
          go_ret
          exact ⟨X, rfl, HL⟩
    · have hNz : (100 : Int) < len := by omega
      go_enter Try.func30, Try.ntmps30
      go_wp2_with (go_at_call 11; refine NW.out.mono ?_; rintro e w1 ⟨b, rfl, hd⟩; have HD := Lib.hid hd; clear hd)
      have LB : Hid (∃ b' k a pl cl pu cu n S, LW w (w1.alloc (.cells #[.pointer (some ⟨b, 0, none⟩), .slice none 0 0, .slice none 0 0, .int .i64 0, .bool true] 62)) w1.heap.size b' k a pl cl pu cu n true 0 S ∧ Gn S.D M0 (f + 0)) := by
        obtain ⟨k, a, hb⟩ := LW.begin HF.out.1 HF.out.2.1 HF.out.2.2.1 HF.out.2.2.2 HD.out
        exact ⟨b, k, a, _, _, _, _, _, _, hb, by rw [← HM.out]; exact Gn.fresh _ _⟩
      clear HM NW HD HF hn hn1 hn2 h6 h7 h00 h01
      generalize w1.alloc (.cells #[.pointer (some ⟨b, 0, none⟩), .slice none 0 0, .slice none 0 0, .int .i64 0, .bool true] 62) = w2 at *
      generalize w1.heap.size = X at *
      go_loopw [33] (fun v wr => ∃ j : Nat, j ≤ 100 ∧ v = .int .i64 j ∧ Hid (∃ b k a pl cl pu cu n S, LW w wr X b k a pl cl pu cu n true j S ∧ Gn S.D M0 (f + j))) (fun v _ => 100 - (intOf v).toNat)
      case atStart => exact ⟨0, Nat.zero_le _, rfl, LB.out⟩
      case round =>
        obtain ⟨j, hj, rfl, HL⟩ := hrel
        clear LB
        by_cases hlt : j < 100
        · obtain ⟨b', k, a, pl, cl, pu, cu, n', S, hl, hgn⟩ := HL.out
          have HG := Lib.hid hgn
          obtain ⟨B, off, rfl, hB, hcells⟩ := (HU.out.below hl.bel).at_ (show 0 < len by omega)
          obtain ⟨m0, m1, m2, m3⟩ := hcells j (by omega)
          obtain ⟨r1, r2, r3, r4⟩ := HU.out.bd j (by omega)
          generalize m j = M at *
          obtain ⟨mw, mk, mi, mt⟩ := M
          simp only at m0 m1 m2 m3 r1 r2 r3 r4
          have hl2 := hl.quiet (bal wr (.cells #[.int .u8 mw, .int .u8 mk, .int .u8 mi, .int .u8 mt] 68))
          have ST := Lib.hid (step_ok hl2 (by omega) mw mk mi mt r1 r2 r3 r4)
          obtain ⟨_, _, _, _, c4, c5⟩ := hl2.cells
          have NX : Hid (∀ W, StP w (wr.alloc (.cells #[.int .u8 mw, .int .u8 mk, .int .u8 mi, .int .u8 mt] 68)) X b' k a pl pu true (j + 1) S W → (W.cell? ⟨X, 4, none⟩ = some (.bool true) ∧ W.frozen? ⟨X, 4, none⟩ = false ∧ X < W.heap.size) ∧ Hid (∃ b k a pl cl pu cu n S, LW w (W.setCell ⟨X, 4, none⟩ (.bool true)) X b k a pl cl pu cu n true (j + 1) S ∧ Gn S.D M0 (f + (j + 1)))) := fun W h => by
            obtain ⟨⟨pl', cl', pu', cu', n2, S', h1, _, he⟩, _⟩ := h
            obtain ⟨_, _, _, _, d4, d5⟩ := h1.cells
            exact ⟨⟨d4, h1.fz 4, d5⟩, b', k, a, pl', cl', pu', cu', n2, S', h1.setok, HG.out.step he⟩
          clear hgn hl hl2 hcells HL r1 r2 r3 r4
          go_wp2_with (go_at_call 34; refine ST.out.mono ?_; rintro e w5 ⟨rfl, HS⟩; obtain ⟨⟨d4, d5, d6⟩, HN⟩ := NX.out w5 HS.out)
          go_roundw
          case rel => exact ⟨j + 1, by omega, by go_num, HN.out⟩
          case measure => simp [intOf]; omega
        · obtain rfl : j = 100 := by omega
          clear hlt hj
          go_wp2
          go_ret
          exact ⟨X, rfl, HL⟩
end Go.Proofs.Ytfemfgpciogbeaa
