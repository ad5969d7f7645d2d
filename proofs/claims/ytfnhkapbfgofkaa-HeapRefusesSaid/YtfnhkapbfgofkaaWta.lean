/- The contract of the model's turn, whole, and of its beginning at the first generation one. -/
import Derived.Test.YtfnhkapbfgofkaaWt
import Derived.Test.YtfnhkapbfgofkaaWz
namespace Go.Proofs.Ytfnhkapbfgofkaa
open Go.RowKit

theorem turn_ok {w0 w : World} {mb b n f k : Nat} (t : Trn) (ht : t.Ok) (h : Ms w0 w mb b n f k) (hk : k ≤ 200) : Calls Try.prog 32 #[.pointer (some ⟨mb, 0, none⟩), .agg #[.int .u8 t.kind, .int .u8 t.i, .int .u8 t.k]] w fun e w' => e = .returned (.bool true) ∧ Hid (Ms w0 w' mb b n f (k + 1)) := by
  obtain ⟨p, tt, M, e, H, pR, qR, cR, R, pQ, qQ, cQ, Q, N, P, hb, hm, he⟩ := h
  obtain ⟨h1, h2, h3⟩ := ht
  have h4 : t.kind % 4 < 4 := Nat.mod_lt _ (by decide)
  by_cases c : t.kind % 4 < 2
  · cases hf : H.t.free with
    | nil =>
      by_cases c5 : t.i % 5 = 0
      · exact turn_full0 _ _ _ h1 h2 h3 hb hm he hk c c5 hf
      · exact turn_full1 _ _ _ h1 h2 h3 hb hm he hk c c5 hf
    | cons i rr =>
      by_cases c5 : t.i % 5 = 0
      · exact turn_made0 _ _ _ h1 h2 h3 hb hm he hk c c5 hf
      · exact turn_made1 _ _ _ h1 h2 h3 hb hm he hk c c5 hf
  · by_cases cq : qR = 0
    · exact turn_none _ _ _ h1 h2 h3 hb hm he hk c cq
    · by_cases c2 : t.kind % 4 = 2
      · exact turn_free _ _ _ h1 h2 h3 hb hm he hk c2 (by omega)
      · exact turn_store _ _ _ h1 h2 h3 hb hm he hk (by omega) (by omega)
theorem Ms.bel {w0 w : World} {mb b n f k : Nat} (h : Ms w0 w mb b n f k) : Below w0.heap.size w0 w := by
  obtain ⟨p, tt, M, e, H, pR, qR, cR, R, pQ, qQ, cQ, Q, N, P, hb, hm, he⟩ := h
  exact hb.st.bel
theorem Ms.quiet {w0 w w' : World} {mb b n f k : Nat} (h : Ms w0 w mb b n f k) (d : Below w.heap.size w w') : Ms w0 w' mb b n f k := by
  obtain ⟨p, tt, M, e, H, pR, qR, cR, R, pQ, qQ, cQ, Q, N, P, hb, hm, he⟩ := h
  exact ⟨p, tt, M, e, H, pR, qR, cR, R, pQ, qQ, cQ, Q, N, P, hb.quiet d, hm, he⟩
/-- Where no slot is retired, each slot is free or held. -/
theorem Mo.sum {H : Hp} {n f k : Nat} {R Q : List (Nat × Nat)} {N : Nat × Nat → Option (List Rf)} (h : Mo H n f k R Q N) (hf : f + k < 4294967295) : H.t.free.length + H.t.held.length = n := by
  have h1 := sel_all h.ok.t.st H.t.n
  have h2 : (sel H.t.s 2 H.t.n).length = 0 := by
    rw [List.length_eq_zero_iff, List.eq_nil_iff_forall_not_mem]
    intro i hi
    obtain ⟨g1, g2⟩ := mem_sel.1 hi
    rw [h.nn] at g1
    have := h.ret i g1 g2
    have := h.hi i g1
    omega
  have := h.nn
  unfold Tb.free Tb.held
  omega
/-- What there is at the beginning. -/
theorem ms_fresh {w w1 : World} {b n f : Nat} (h1 : 1 ≤ n) (h2 : n ≤ 256) (h3 : 1 ≤ f) (h4 : f ≤ 4294967295) (h : HNew (hfresh n f) w w1 b) :
    Ms w ((w1.alloc (.map #[] 0)).alloc (.cells #[.pointer (some ⟨b, 0, none⟩), .map (some w1.heap.size), .slice none 0 0, .slice none 0 0] 68)) (w1.heap.size + 1) b n f 0 := by
  obtain ⟨p, t, hS⟩ := HSt.new h
  have hz : (w1.alloc (.map #[] 0)).heap.size = w1.heap.size + 1 := by simp
  have b1 : Below w1.heap.size w1 (w1.alloc (.map #[] 0)) := bel_new _ _
  have b2 := bel_new (w1.alloc (.map #[] 0)) (.cells #[.pointer (some ⟨b, 0, none⟩), .map (some w1.heap.size), .slice none 0 0, .slice none 0 0] 68)
  have m1 := MapF.new w1
  have S2 := (hS.quiet b1).quiet b2
  have hle := hS.bel.size
  have bm := Bk.new (w1.alloc (.map #[] 0)) 68 #[.pointer (some ⟨b, 0, none⟩), .map (some w1.heap.size), .slice none 0 0, .slice none 0 0]
  rw [hz] at bm
  exact ⟨p, t, w1.heap.size, 0, hfresh n f, none, 0, 0, [], none, 0, 0, [], fun _ => none, fun _ => none,
    ⟨S2, bm, by omega, m1.same (b2.block _ m1.lt), hle, World.ownsRow_nil _ _ _ _, rfl, World.ownsRow_nil _ _ _ _, rfl,
      ⟨fun _ _ => rfl, (fun _ _ _ h => by cases h), (fun _ _ _ _ _ h => by cases h)⟩, (fun _ h => by cases h)⟩,
    Mo.fresh h1 h2 h3 h4, Nat.le_refl _⟩
set_option maxHeartbeats 4000000 in
set_option maxRecDepth 100000 in
theorem begin_one (x : Nat) (w : World) (hx : x ≤ 255) : Calls Try.prog 31 #[.int .u8 x, .int .u32 1] w fun e w' => ∃ mb b, e = .returned (.pointer (some ⟨mb, 0, none⟩)) ∧ Hid (Ms w w' mb b (1 + x) 1 0) := by
  have NW : Hid (Calls Try.prog 12 #[.int .i64 (1 + (x : Int)), .int .u32 1] w fun e w' => ∃ b, e = .returned (.tuple #[.pointer (some ⟨b, 0, none⟩), .int .i64 0]) ∧ Hid (HNew (hfresh (1 + x) 1) w w' b)) := by
    have := hnew_ok (1 + x) 1 w (by omega) (by omega) (by decide) (by decide)
    rw [show ((1 + x : Nat) : Int) = 1 + (x : Int) by omega] at this
    exact this
  have hmm := @run_makeMap Try.prog
  go_enter Try.func31, Try.ntmps31
  go_wp2_with (go_at_call 12; refine NW.out.mono ?_; rintro e w1 ⟨b, rfl, HF⟩)
  have HM := Lib.hid (ms_fresh (by omega) (by omega) (by decide) (by decide) HF.out)
  go_ret
  exact ⟨_, _, rfl, HM⟩
end Go.Proofs.Ytfnhkapbfgofkaa
