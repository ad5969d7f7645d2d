/- The program's heap between the calls of a law: each call told of the state. -/
import Derived.Test.YtfnhkapbfgofkaaWj
namespace Go.Proofs.Ytfnhkapbfgofkaa
open Go.RowKit

structure HSt (w0 w : World) (b p t : Nat) (H : Hp) : Prop where
  f : HW w b p t H
  bel : Below w0.heap.size w0 w
  lo : ∀ g, HFoot b p t g → w0.heap.size ≤ g
def I64 (n : Int) : Prop := -9223372036854775808 ≤ n ∧ n ≤ 9223372036854775807
section
variable {w0 w w' : World} {b p t : Nat} {H K : Hp}
theorem HSt.quiet (h : HSt w0 w b p t H) (d : Below w.heap.size w w') : HSt w0 w' b p t H := ⟨h.f.below d, h.bel.trans (d.mono h.bel.size), h.lo⟩
theorem HSt.next (h : HSt w0 w b p t H) (d : Kept (HFoot b p t) w w') (f : HW w' b p t K) : HSt w0 w' b p t K := ⟨f, h.bel.trans (d.below h.bel.size h.lo), h.lo⟩
theorem HSt.new {b : Nat} (h : HNew H w w' b) : ∃ p t, HSt w w' b p t H := by
  obtain ⟨p, t, h1, h2, h3⟩ := h
  exact ⟨p, t, h1, h3, h2⟩
theorem obj_s (s g : Int) (o : Ob) (E : Int) (h : HSt w0 w b p t H) (ho : H.obj (s, g) = o) (hE : H.chk (s, g) = E) : Calls Try.prog 26 #[.pointer (some ⟨b, 0, none⟩), .agg #[.int .i64 s, .int .u32 g]] w fun e w' =>
    e = .returned (.tuple #[.agg #[.int .i64 o.n, .int .i64 o.a.1, .int .u32 o.a.2, .int .i64 o.b.1, .int .u32 o.b.2, .int .i64 o.c.1, .int .u32 o.c.2, .int .i64 o.d.1, .int .u32 o.d.2, .bool o.h], .int .i64 E]) ∧ Below w.heap.size w w' := object_at b p t H s g o E ho hE w h.f w (Below.refl _ _)
theorem has_s (s g : Int) (c : Bool) (h : HSt w0 w b p t H) (hc : (H.chk (s, g) == 0) = c) : Calls Try.prog 27 #[.pointer (some ⟨b, 0, none⟩), .agg #[.int .i64 s, .int .u32 g]] w fun e w' => e = .returned (.bool c) ∧ Below w.heap.size w w' := by
  have := has_ok b p t H (s, g) w h.f
  rw [hc] at this
  exact this
theorem load_s (s g i : Int) (q : Rf) (E : Int) (h : HSt w0 w b p t H) (hi : I64 i) (hq : H.lR (s, g) i = q) (hE : H.lE (s, g) i = E) : Calls Try.prog 18 #[.pointer (some ⟨b, 0, none⟩), .agg #[.int .i64 s, .int .u32 g], .int .i64 i] w fun e w' => e = .returned (.tuple #[.agg #[.int .i64 q.1, .int .u32 q.2], .int .i64 E]) ∧ Below w.heap.size w w' := by
  have := hload_ok b p t H (s, g) i hi w h.f
  rw [hq, hE] at this
  exact this
theorem len_s (n : Nat) (h : HSt w0 w b p t H) (hn : H.t.held.length = n) : Calls Try.prog 29 #[.pointer (some ⟨b, 0, none⟩)] w fun e w' => e = .returned (.int .i64 n) ∧ Below w.heap.size w w' := by
  have := hlen_ok b p t H w h.f
  rw [hn] at this
  exact this
theorem left_s (n : Nat) (h : HSt w0 w b p t H) (hn : H.t.free.length = n) : Calls Try.prog 30 #[.pointer (some ⟨b, 0, none⟩)] w fun e w' => e = .returned (.int .i64 n) ∧ Below w.heap.size w w' := by
  have := hleft_ok b p t H w h.f
  rw [hn] at this
  exact this
theorem all_s (L : List (Nat × Nat)) (h : HSt w0 w b p t H) (hL : H.t.now = L) : Calls Try.prog 28 #[.pointer (some ⟨b, 0, none⟩)] w (TakenV L w) := by
  have := hall_ok b p t H w h.f
  rw [hL] at this
  exact this
theorem free_s (s g : Int) (E : Int) (h : HSt w0 w b p t H) (hE : H.chk (s, g) = E) : Calls Try.prog 16 #[.pointer (some ⟨b, 0, none⟩), .agg #[.int .i64 s, .int .u32 g]] w fun e w' => e = .returned (.int .i64 E) ∧ HSt w0 w' b p t (H.freed (s, g)) ∧ Kept (HFoot b p t) w w' := by
  refine (hfree_ok b p t H (s, g) w h.f).mono ?_
  rintro e w' ⟨rfl, h1⟩
  have k := h1.out.2.mono (T := HFoot b p t) fun _ _ e => .inr (.inr e)
  exact ⟨by rw [hE], h.next k h1.out.1, k⟩
theorem make_s (n : Int) (hd : Bool) (q : Rf) (E : Int) (hn : I64 n) (h : HSt w0 w b p t H) (hq : H.mR n hd = q) (hE : H.mE n hd = E) : Calls Try.prog 14 #[.pointer (some ⟨b, 0, none⟩), .int .i64 n, .bool hd] w fun e w' => e = .returned (.tuple #[.agg #[.int .i64 q.1, .int .u32 q.2], .int .i64 E]) ∧ HSt w0 w' b p t (H.made n hd) ∧ Kept (HFoot b p t) w w' := by
  refine (hmake_ok b p t H n hd hn w h.f).mono ?_
  rintro e w' ⟨rfl, h1⟩
  have k := h1.out.2.mono (T := HFoot b p t) fun _ _ e => e.elim (fun e => .inr (.inl e)) fun e => .inr (.inr e)
  exact ⟨by rw [hE, hq]; rfl, h.next k h1.out.1, k⟩
theorem store_s (s g i vs vg : Int) (q : Rf) (E : Int) (hi : I64 i) (hv : Rr (vs, vg)) (h : HSt w0 w b p t H) (hq : H.sR (s, g) i (vs, vg) = q) (hE : H.sE (s, g) i (vs, vg) = E) : Calls Try.prog 20 #[.pointer (some ⟨b, 0, none⟩), .agg #[.int .i64 s, .int .u32 g], .int .i64 i, .agg #[.int .i64 vs, .int .u32 vg]] w fun e w' => e = .returned (.tuple #[.agg #[.int .i64 q.1, .int .u32 q.2], .int .i64 E]) ∧ HSt w0 w' b p t (H.stored (s, g) i (vs, vg)) ∧ Kept (HFoot b p t) w w' := by
  refine (hstore_ok b p t H (s, g) i (vs, vg) hi hv w h.f).mono ?_
  rintro e w' ⟨rfl, h1⟩
  have k := h1.out.2.mono (T := HFoot b p t) fun _ _ e => .inr (.inl e)
  exact ⟨by rw [hE, hq]; rfl, h.next k h1.out.1, k⟩
end

/-! ### what the calls come to, by the ways -/
section
variable {H : Hp} {n : Int} {hd : Bool} {i : Nat} {r : List Nat} {s g k : Int} {v : Rf}
theorem Hp.make_yes (hp : Poss (Go.Proofs.Ytfnhkapbfgofkaa.mk n hd)) (hf : H.t.free = i :: r) : H.mE n hd = 0 ∧ H.mR n hd = ((i : Int), (H.t.g i : Int)) ∧ H.made n hd = ⟨H.t.took i, putO H.o i (Go.Proofs.Ytfnhkapbfgofkaa.mk n hd)⟩ := by
  refine ⟨?_, ?_, ?_⟩
  · unfold Hp.mE; rw [if_pos hp, hf]
  · unfold Hp.mR; rw [if_pos hp, hf]
  · unfold Hp.made; rw [if_pos hp, hf]
theorem Hp.make_full (hp : Poss (Go.Proofs.Ytfnhkapbfgofkaa.mk n hd)) (hf : H.t.free = []) : H.mE n hd = 4 ∧ H.mR n hd = (0, 0) ∧ H.made n hd = H := by
  refine ⟨?_, ?_, ?_⟩
  · unfold Hp.mE; rw [if_pos hp, hf]
  · unfold Hp.mR; rw [if_pos hp, hf]
  · unfold Hp.made; rw [if_pos hp, hf]
theorem Hp.make_bad (hp : ¬ Poss (Go.Proofs.Ytfnhkapbfgofkaa.mk n hd)) : H.mE n hd = 2 ∧ H.mR n hd = (0, 0) ∧ H.made n hd = H := by
  refine ⟨?_, ?_, ?_⟩
  · unfold Hp.mE; rw [if_neg hp]
  · unfold Hp.mR; rw [if_neg hp]
  · unfold Hp.made; rw [if_neg hp]
theorem Hp.chk_is (hi : i < H.t.n) (hs : H.t.s i = 1) (hg : g = H.t.g i) : H.chk ((i : Int), g) = 0 := by
  rw [hg]; exact Tb.chk_held hi hs
theorem Hp.at_nat (H : Hp) (i : Nat) (g : Int) : H.at_ ((i : Int), g) = H.o i := by unfold Hp.at_; rw [show ((i : Int), g).1.toNat = i from Int.toNat_natCast i]
/-- A field that there is. -/
theorem Hp.load_yes (hc : H.chk ((i : Int), g) = 0) (hp : Poss (H.o i)) (hk : 0 ≤ k ∧ k < (H.o i).n) : H.lE ((i : Int), g) k = 0 ∧ H.lR ((i : Int), g) k = (H.o i).fld k.toNat := by
  unfold Hp.lE Hp.lR
  rw [if_pos hc, if_pos hc, H.at_nat, get_ok hp hk]
  exact ⟨rfl, rfl⟩
theorem Hp.load_out (hc : H.chk ((i : Int), g) = 0) (hp : Poss (H.o i)) (hk : k < 0 ∨ (H.o i).n ≤ k) : H.lE ((i : Int), g) k = 3 ∧ H.lR ((i : Int), g) k = (0, 0) := by
  unfold Hp.lE Hp.lR
  rw [if_pos hc, if_pos hc, H.at_nat, get_out hp hk]
  exact ⟨rfl, rfl⟩
theorem Hp.load_err {r : Rf} (hc : H.chk r ≠ 0) : H.lE r k = H.chk r ∧ H.lR r k = (0, 0) := by
  unfold Hp.lE Hp.lR
  rw [if_neg hc, if_neg hc]
  exact ⟨rfl, rfl⟩
theorem Hp.store_yes (hc : H.chk ((i : Int), g) = 0) (hp : Poss (H.o i)) (hk : 0 ≤ k ∧ k < (H.o i).n) (hv : H.vE v = 0) : H.sE ((i : Int), g) k v = 0 ∧ H.sR ((i : Int), g) k v = (H.o i).fld k.toNat ∧ H.stored ((i : Int), g) k v = ⟨H.t, putO H.o i ((H.o i).upd v k.toNat)⟩ := by
  have hE : H.sE ((i : Int), g) k v = 0 := by unfold Hp.sE; rw [if_pos hc, H.at_nat, get_ok hp hk, if_pos rfl, hv]
  refine ⟨hE, ?_, ?_⟩
  · unfold Hp.sR; rw [if_pos hE, H.at_nat, get_ok hp hk]
  · unfold Hp.stored; rw [if_pos hE, H.at_nat]; simp
theorem Hp.store_no {r : Rf} {E : Int} (hE : H.sE r k v = E) (h0 : E ≠ 0) : H.sR r k v = (0, 0) ∧ H.stored r k v = H := by
  unfold Hp.sR Hp.stored
  rw [if_neg (by rw [hE]; exact h0), if_neg (by rw [hE]; exact h0)]
  exact ⟨rfl, rfl⟩
theorem Hp.store_out (hc : H.chk ((i : Int), g) = 0) (hp : Poss (H.o i)) (hk : k < 0 ∨ (H.o i).n ≤ k) : H.sE ((i : Int), g) k v = 3 := by
  unfold Hp.sE; rw [if_pos hc, H.at_nat, get_out hp hk, if_neg (by decide)]
theorem Hp.store_bad (hc : H.chk ((i : Int), g) = 0) (hp : Poss (H.o i)) (hk : 0 ≤ k ∧ k < (H.o i).n) : H.sE ((i : Int), g) k v = H.vE v := by
  unfold Hp.sE; rw [if_pos hc, H.at_nat, get_ok hp hk, if_pos rfl]
theorem Hp.store_err {r : Rf} (hc : H.chk r ≠ 0) : H.sE r k v = H.chk r := by unfold Hp.sE; rw [if_neg hc]
end
end Go.Proofs.Ytfnhkapbfgofkaa
