/- The range-function (*Pool).pinned: it yields the buffers that are pinned, in order, with their bytes, whatever the loop's body does to other blocks. -/
import Derived.Test.YtjhgckaaaonbiaaUr
namespace Go.Proofs.Ytjhgckaaaonbiaa
open Go.RowKit Go.Shelf
attribute [local go_sem] Oper.semAt_some

/-! ### slices of references -/
theorem pairs_at : ∀ (l : List (Nat × Nat)) (j : Nat) (r : Nat × Nat), l[j]? = some r → (pairs l)[j * 2]? = some (.int .i64 r.1) ∧ (pairs l)[j * 2 + 1]? = some (.int .u32 r.2)
  | [], j, r, h => by simp at h
  | a :: l, 0, r, h => by
    simp at h; subst h
    simp [pairs]
  | a :: l, j + 1, r, h => by
    simp at h
    have ih := pairs_at l j r h
    have e : pairs (a :: l) = .int .i64 a.1 :: .int .u32 a.2 :: pairs l := rfl
    have e1 : (j + 1) * 2 = j * 2 + 1 + 1 := by omega
    rw [e, e1, List.getElem?_cons_succ, List.getElem?_cons_succ, List.getElem?_cons_succ, List.getElem?_cons_succ]
    exact ih
/-- The slice value v reads as the references l. -/
def Sr (w : World) (v : Value) (l : List (Nat × Nat)) : Prop :=
  ∃ a c, v = .slice a l.length c ∧ (0 < l.length → ∃ g cur, a = some ⟨g, 0, none⟩ ∧ Bk w g 80 cur ∧ ∀ j r, l[j]? = some r → cur[j * 2]? = some (.int .i64 r.1) ∧ cur[j * 2 + 1]? = some (.int .u32 r.2))
theorem Sr.of_own {w : World} {b : Nat} {v : Value} {l : List (Nat × Nat)} (h : w.ownsRow b 80 2 v l.length (pairs l)) : Sr w v l := by
  rcases h.2 with ⟨rfl, h0⟩ | ⟨g, cap, cur, rfl, h1, h2, h3, h4, h5, h6⟩
  · have : l = [] := List.eq_nil_of_length_eq_zero h0
    subst this
    exact ⟨none, 0, rfl, fun h => by simp at h⟩
  · refine ⟨_, cap, rfl, fun _ => ⟨g, cur, rfl, h2, fun j r hj => ?_⟩⟩
    have hjl : j < l.length := (List.getElem?_eq_some_iff.1 hj).1
    have := pairs_at l j r hj
    rw [← h6, List.getElem?_take_of_lt (by omega), List.getElem?_take_of_lt (by omega), Array.getElem?_toList, Array.getElem?_toList] at this
    exact this
theorem Sr.at {w : World} {a : Option Addr} {n c : Nat} {l : List (Nat × Nat)} (h : Sr w (.slice a n c) l) {j : Nat} {r : Nat × Nat} (hj : l[j]? = some r) : ∃ g, a = some ⟨g, 0, none⟩ ∧ g < w.heap.size ∧ w.cell? ⟨g, j * 2, none⟩ = some (.int .i64 r.1) ∧ w.cell? ⟨g, j * 2 + 1, none⟩ = some (.int .u32 r.2) := by
  obtain ⟨a', c', e, h⟩ := h
  injection e with e1 e2 e3
  subst e1
  have hjl : j < l.length := (List.getElem?_eq_some_iff.1 hj).1
  obtain ⟨g, cur, e2, hg, hc⟩ := h (by omega)
  exact ⟨g, e2, hg.lt, by rw [hg.cell]; exact (hc j r hj).1, by rw [hg.cell]; exact (hc j r hj).2⟩
theorem Sr.len {w : World} {v : Value} {l : List (Nat × Nat)} (h : Sr w v l) : ∃ a c, v = .slice a l.length c := by
  obtain ⟨a, c, e, _⟩ := h
  exact ⟨a, c, e⟩
/-- Taken, told by what its slice reads as. -/
def TkS (l : List (Nat × Nat)) (w : World) (e : Ending) (w' : World) : Prop := ∃ a c, e = .returned (.slice a l.length c) ∧ Sr w' (.slice a l.length c) l ∧ Below w.heap.size w w'
theorem taken_s (b : Nat) (T : Tb) (w : World) (h : TabW w b T) : Calls Try.prog 50 #[.pointer (some ⟨b, 0, none⟩)] w (TkS T.now w) := by
  refine (taken_ok b T w h).mono ?_
  rintro e w' ⟨v, rfl, h1, _, h3⟩
  have hs := Sr.of_own h1
  obtain ⟨a, c, rfl⟩ := hs.len
  exact ⟨a, c, rfl, hs, h3⟩

/-! ### pinned -/
theorem pinned_ok (v : Option Addr) (w : World) : Calls Try.prog 41 #[.pointer v] w fun e w' => e = .returned (.func (.func 49) #[] #[.pointer (some ⟨w.heap.size, 0, none⟩)]) ∧ w.alloc (.cells #[.pointer v] 25) = w' := by
  go_enter Try.func41, Try.ntmps41
  go_wp2
  go_ret
  exact ⟨rfl, rfl⟩

/-- What a round that goes on keeps: the blocks below n₀ that X does not name, and all references. -/
def KpR (X : Nat → Prop) (n₀ : Nat) (A B : World) : Prop := A.heap.size ≤ B.heap.size ∧ (∀ k, k < n₀ → ¬ X k → B.heap[k]? = A.heap[k]?) ∧ ∀ k cs, Bk A k 80 cs → B.heap[k]? = A.heap[k]?
theorem KpR.refl (X : Nat → Prop) (n₀ : Nat) (A : World) : KpR X n₀ A A := ⟨Nat.le_refl _, fun _ _ _ => rfl, fun _ _ _ => rfl⟩
theorem KpR.trans {X : Nat → Prop} {n₀ : Nat} {A B C : World} (h : KpR X n₀ A B) (k : KpR X n₀ B C) : KpR X n₀ A C :=
  ⟨Nat.le_trans h.1 k.1, fun i hi hx => (k.2.1 i hi hx).trans (h.2.1 i hi hx), fun i cs hb => (k.2.2 i cs (hb.same (h.2.2 i cs hb))).trans (h.2.2 i cs hb)⟩
theorem KpR.of_below {X : Nat → Prop} {n₀ : Nat} {A B : World} (h : Below A.heap.size A B) (hn : n₀ ≤ A.heap.size) : KpR X n₀ A B := ⟨h.size, fun k hk _ => h.block k (by omega), fun k _ hb => h.block k hb.lt⟩
theorem kpR_b {X : Nat → Prop} {n₀ : Nat} {w : World} (hn : n₀ ≤ w.heap.size) (W : World) (l : Nat) (o o' : Obj) (hl : w.heap.size ≤ l) (h : W.heap[l]? = some o) (h1 : o.isCells = false) (h2 : o.isWalk = false) : KpR X n₀ W (W.putObj l o') :=
  ⟨(belowK_b hn W l o o' hl h h1 h2).size, fun k hk _ => (belowK_b hn W l o o' hl h h1 h2).block k hk, fun k cs hb => by
    have hne : k ≠ l := by rintro rfl; rw [show W.heap[k]? = _ from hb] at h; cases h; cases h1
    exact (grownBy_putObj' W l o').block k hb.lt (fun e => hne (Option.some.inj e))⟩
theorem Sr.kp {X : Nat → Prop} {n₀ : Nat} {w w' : World} {v : Value} {l : List (Nat × Nat)} (h : Sr w v l) (k : KpR X n₀ w w') : Sr w' v l := by
  obtain ⟨a, c, e, h⟩ := h
  refine ⟨a, c, e, fun h0 => ?_⟩
  obtain ⟨g, cur, e2, hg, hc⟩ := h h0
  exact ⟨g, cur, e2, hg.same (k.2.2 g cur hg), hc⟩

structure PinAt (W : World) (X : Nat → Prop) (n₀ Bs b s k : Nat) (P : Po) : Prop where
  q : PW W b s k P
  bs : W.cell? ⟨Bs, 0, none⟩ = some (.pointer (some ⟨b, 0, none⟩))
  ft : ∀ g, PFoot b s k g → g < n₀ ∧ ¬ X g
  ls : Bs < n₀
  xs : ¬ X Bs
  sz : n₀ ≤ W.heap.size
theorem PinAt.kp {W W' : World} {X : Nat → Prop} {n₀ Bs b s k : Nat} {P : Po} (h : PinAt W X n₀ Bs b s k P) (q : KpR X n₀ W W') : PinAt W' X n₀ Bs b s k P :=
  ⟨h.q.same fun g hg => q.2.1 g (h.ft g hg).1 (h.ft g hg).2, (World.cell?_of_block (a := ⟨Bs, 0, none⟩) (q.2.1 Bs h.ls h.xs)).trans h.bs, h.ft, h.ls, h.xs, Nat.le_trans h.sz q.1⟩
/-- What is yielded. -/
def encP (P : Po) (x : Nat × Nat) : Array Value := #[.agg #[.int .i64 2, .int .i64 x.1, .int .u32 x.2], .int .i64 (P.m x.1)]

/-- v once its operation has come up, u before. -/
def selo (b : Bool) (u v : Value) : Value := if b then v else u
theorem selo_true (u v : Value) : selo true u v = v := rfl
/-- While the region runs that yields. -/
def JPin (W0 : World) (l Bs b s k g N c j i y m : Nat) (Good Bad : World → Prop) (v36 : Value) (u : Nat → Value) (f : Nat → Bool) (a : Act) (W : World) : Prop :=
  ∃ v34, a = ⟨#[.func (.yield l) #[] #[], .pointer (some ⟨Bs, 0, none⟩), undef, undef, .pointer (some ⟨W0.heap.size - 1, 0, none⟩), .pointer (some ⟨b, 0, none⟩), .bool true, .bool false, .pointer (some ⟨b, 0, none⟩), .pointer (some ⟨b, 0, none⟩), .pointer (some ⟨b, 0, none⟩), .pointer (some ⟨s, 0, none⟩), .pointer (some ⟨s, 0, none⟩), .pointer (some ⟨s, 0, none⟩), .pointer (some ⟨k, 0, none⟩), .slice (some ⟨g, 0, none⟩) N c, .int .i64 N, .int .i64 j, .bool true, .pointer (some ⟨g, j * 2, none⟩), .agg #[.int .i64 i, .int .u32 y],
      selo (f 0) (u 21) (.func (.yield l) #[] #[]), selo (f 1) (u 22) (.agg #[.int .i64 i, .int .u32 y]), selo (f 2) (u 23) (.agg #[.int .i64 2, .int .i64 i, .int .u32 y]), selo (f 3) (u 24) (.pointer (some ⟨b, 0, none⟩)), selo (f 4) (u 25) (.pointer (some ⟨b, 0, none⟩)), selo (f 5) (u 26) (.pointer (some ⟨b, 0, none⟩)), selo (f 6) (u 27) (.pointer (some ⟨s, 0, none⟩)),
      selo (f 7) (u 28) (.pointer (some ⟨W0.heap.size - 1, 0, none⟩)), selo (f 8) (u 29) (.int .i64 i), selo (f 9) (u 30) (.pointer (some ⟨s, 0, none⟩)), selo (f 10) (u 31) (.pointer (some ⟨s, 2, none⟩)), selo (f 11) (u 32) (.pointer (some ⟨s, 2 + i, none⟩)), selo (f 12) (u 33) (.int .i64 m), selo (f 13) (u 34) v34, u 35, v36], []⟩ ∧
    (f 13 = false → Below W0.heap.size W0 W) ∧ (f 13 = true → (v34 = .bool true ∧ Good W) ∨ (v34 = .bool false ∧ Bad W))
/-- u from a list. -/
def slots_u (l : List Value) (q : Nat) : Value := (l[q - 21]?).getD undef

set_option maxRecDepth 100000 in
set_option maxHeartbeats 4000000 in
theorem pin1_in (n : Nat) (hn : 1 ≤ n) (l Bs n₀ b s k B0 : Nat) (P : Po) (X : Nat → Prop) (J Jx : List (Nat × Nat) → World → Prop) (hJ : AbidesFrom B0 J)
    (hY : ∀ pre x W, J pre W → pre.length < P.t.now.length → YieldAt Fence.wide (n - 1) Try.prog l (encP P x) W fun e W' =>
      (e = .returned (.bool true) ∧ J (pre ++ [x]) W' ∧ KpR X n₀ W W') ∨ (e = .returned (.bool false) ∧ Jx (pre ++ [x]) W'))
    (W : World) (hA : PinAt W X n₀ Bs b s k P) (h0 : J [] W) :
    CallsIn Fence.wide n Try.prog 49 #[.func (.yield l) #[] #[], .pointer (some ⟨Bs, 0, none⟩)] W fun e W' => (∃ v, e = .returned v) ∧
      ((∃ ys, ys = P.t.now ∧ J ys W') ∨ (∃ pre, pre <+: P.t.now ∧ Jx pre W')) := by
  have hbs := hA.bs
  have hb0 := hA.q.c0
  have hs0 := hA.q.s0
  have HA := Lib.hid hA
  have HY := Lib.hid hY
  have H0 := Lib.hid h0
  have HJB : Hid (∀ (pre : List (Nat × Nat)) (W W' : World), J pre W → Below W.heap.size W W' → J pre W') := fun pre W W' h hB => hJ _ _ _ none h ⟨hB.os, hB.tape, hB.output, hB.size, fun k hk _ => hB.block k hk⟩ (fun r e => by cases e)
  have HR : Hid (∀ x ∈ P.t.now, x.1 < 64 ∧ x.2 ≤ 4294967295) := fun x hx => by
    have h1 := Tb.mem_now.1 hx
    have h2 := hA.q.ok.hi
    have h3 := hA.q.ok.t.gm x.1
    omega
  have TK := Lib.hid (taken_s k P.t W hA.q.tab)
  have hN : P.t.now.length ≤ 64 := by rw [Tb.now_len]; exact hA.q.ok.held_len
  clear hA hY h0 hJ
  obtain ⟨L, hL⟩ : ∃ L, P.t.now = L := ⟨_, rfl⟩
  rw [hL] at HY HR TK hN ⊢
  clear hL
  obtain ⟨N, hNN⟩ : ∃ N, L.length = N := ⟨_, rfl⟩
  have HN := Lib.hid hNN
  rw [hNN] at hN HY
  refine callsIn_of_wp Try.func49 rfl trivial ?_ rfl
  simp only [Try.ntmps49, List.size_toArray, List.length_cons, List.length_nil, Nat.reduceAdd, Nat.reduceSub, Array.replicate_succ, Array.replicate_zero, List.push_toArray, List.append_toArray, List.nil_append, List.cons_append]
  gi_wp2_with (first
    | (refine ⟨trivial, ?_⟩; gi_at_call 27; refine (callsIn_wide.2 (pvalid_yes b s _ HA.out.q.c0)).mono ?_; rintro e w' ⟨rfl, rfl⟩)
    | (refine ⟨trivial, ?_⟩; gi_at_call 50; refine (callsIn_wide.2 TK.out).mono ?_; rintro e w1 ⟨a, c, rfl, hs, hb⟩; rw [hNN] at hs ⊢; have HS := Lib.hid hs; have HB := Lib.hid hb; clear hs hb))
  clear hbs hb0 hs0 TK hNN
  gi_loopw [17] (fun i wr => ∃ j : Nat, j ≤ N ∧ i = .int .i64 j ∧ Hid (J (L.take j) wr) ∧ Hid (KpR X n₀ W wr) ∧ Hid (Sr wr (.slice a N c) L)) (fun i _ => N - (intOf i).toNat)
  case atStart => exact ⟨0, Nat.zero_le _, rfl, HJB.out _ _ _ H0.out HB.out, KpR.of_below HB.out HA.out.sz, HS.out⟩
  case round =>
    obtain ⟨j, hj, rfl, HJ, HK, HS2⟩ := hrel
    clear HS
    have HA2 := Lib.hid (HA.out.kp HK.out)
    by_cases hlt : j < N
    · obtain ⟨x, hx⟩ : ∃ x, L[j]? = some x := ⟨_, List.getElem?_eq_getElem (by rw [HN.out]; exact hlt)⟩
      obtain ⟨g, rfl, hg, c0, c1⟩ := HS2.out.at hx
      have hxr := HR.out x (List.mem_of_getElem? hx)
      have hsn : L.take j ++ [x] = L.take (j + 1) := by rw [List.take_add_one, hx]; rfl
      have HSN := Lib.hid hsn
      obtain ⟨i, y⟩ := x
      simp only at hxr c0 c1
      obtain ⟨hi, hy⟩ := hxr
      clear hx hsn
      gi_wp2
      obtain ⟨w0, hw0⟩ : ∃ w0, wr.alloc (.cells #[.int .i64 i, .int .u32 y] 80) = w0 := ⟨_, rfl⟩
      have hsz0 : w0.heap.size = wr.heap.size + 1 := by rw [← hw0, World.size_alloc]
      have hB0 : Below wr.heap.size wr w0 := by rw [← hw0]; exact (Below.refl _ _).alloc (Nat.le_refl _) _
      have nb : Bk w0 wr.heap.size 80 #[.int .i64 i, .int .u32 y] := by rw [← hw0]; exact Bk.new wr _ _
      obtain ⟨m, hm⟩ : ∃ m, P.m i = m := ⟨_, rfl⟩
      have HC : Hid (∀ W', Below w0.heap.size w0 W' → W'.cell? ⟨Bs, 0, none⟩ = some (.pointer (some ⟨b, 0, none⟩)) ∧ W'.cell? ⟨b, 0, none⟩ = some (.pointer (some ⟨s, 0, none⟩)) ∧ W'.cell? ⟨s, 2 + i, none⟩ = some (.int .i64 m) ∧ W'.cell? ⟨wr.heap.size, 0, none⟩ = some (.int .i64 i) ∧ W'.cell? ⟨wr.heap.size, 1, none⟩ = some (.int .u32 y) ∧ b < W'.heap.size ∧ s < W'.heap.size ∧ wr.heap.size < W'.heap.size) := fun W' hW' => by
        have h1 := HA2.out.kp (KpR.of_below (bel2 hB0 hW') HA2.out.sz)
        have h2 := h1.q.sm hi
        rw [hm] at h2
        exact ⟨h1.bs, h1.q.c0, h2, (nb.below hW').cell 0, (nb.below hW').cell 1, h1.q.hb.lt, h1.q.hs.lt, (nb.below hW').lt⟩
      have HY2 : Hid (∀ W', Below w0.heap.size w0 W' → YieldAt Fence.wide (n - 1) Try.prog l #[.agg #[.int .i64 2, .int .i64 i, .int .u32 y], .int .i64 m] W' fun e W3 =>
          (e = .returned (.bool true) ∧ J (L.take (j + 1)) W3 ∧ KpR X n₀ wr W3) ∨ (e = .returned (.bool false) ∧ Jx (L.take (j + 1)) W3)) := fun W' hW' => by
        have h1 := HY.out (L.take j) (i, y) W' (HJB.out _ _ _ HJ.out (bel2 hB0 hW')) (by rw [List.length_take]; omega)
        unfold encP at h1
        rw [hm, HSN.out] at h1
        obtain ⟨fn, tmps, assign, body, hy, hR⟩ := h1
        refine ⟨fn, tmps, assign, body, hy, hR.mono ?_⟩
        rintro e W3 (⟨h1, h2, h3⟩ | h)
        · exact .inl ⟨h1, h2, (KpR.of_below (bel2 hB0 hW') HA2.out.sz).trans h3⟩
        · exact .inr h
      rw [hw0]
      clear hw0 hm nb c0 c1
      have hsz1 : wr.heap.size = w0.heap.size - 1 := by omega
      rw [hsz1] at HC ⊢
      have HSZ := Lib.hid (And.intro hsz0 hB0)
      clear hsz0 hsz1 hB0
      refine regionIn_last 14 (JPin w0 l Bs b s k g N c j i y m (fun W3 => J (L.take (j + 1)) W3 ∧ KpR X n₀ wr W3) (fun W3 => Jx (L.take (j + 1)) W3) u36 (slots_u [u21, u22, u23, u24, u25, u26, u27, u28, u29, u30, u31, u32, u33, u34, u35])) (by kernel_rfl) rfl ?_ ?_ ?_ ?_ ?_
      · intro i o ho
        rcases i with _ | _ | _ | _ | _ | _ | _ | _ | _ | _ | _ | _ | _ | _ | _ | i
        all_goals simp at ho
        all_goals subst ho
        all_goals simp [Region.binds]
      · intro f hcl hp i hi
        have h1 := hp _ rfl
        have c2 := fun h => hcl 2 _ rfl h
        have c4 := fun h => hcl 4 _ rfl h
        have c5 := fun h => hcl 5 _ rfl h
        have c6 := fun h => hcl 6 _ rfl h
        have c8 := fun h => hcl 8 _ rfl h
        have c9 := fun h => hcl 9 _ rfl h
        have c10 := fun h => hcl 10 _ rfl h
        have c11 := fun h => hcl 11 _ rfl h
        have c12 := fun h => hcl 12 _ rfl h
        have c13 := fun h => hcl 13 _ rfl h
        simp [Region.binds] at h1 c2 c4 c5 c6 c8 c9 c10 c11 c12 c13
        obtain ⟨k0, k2, k12, _⟩ := c13 h1
        have k11 := c12 k12
        obtain ⟨k10, k8⟩ := c11 k11
        have k9 := c10 k10
        have k6 := c9 k9
        have k5 := c6 k6
        have k4 := c5 k5
        have k3 := c4 k4
        have k7 := c8 k8
        have k1 := c2 k2
        clear c2 c4 c5 c6 c8 c9 c10 c11 c12 c13 hp hcl
        rcases i with _ | _ | _ | _ | _ | _ | _ | _ | _ | _ | _ | _ | _ | _ | i
        all_goals try simp only [Nat.zero_add, Nat.reduceAdd] at hi ⊢
        all_goals first | assumption | omega
      · refine ⟨undef, rfl, fun _ => bel_drew (Below.refl _ _), fun h => by cases h⟩
      · rintro f a W' ⟨v34, rfl, hB, hG⟩ hcl i' o ho hi' hfi hpre
        have c2 := fun h => hcl 2 _ rfl h
        have c4 := fun h => hcl 4 _ rfl h
        have c5 := fun h => hcl 5 _ rfl h
        have c6 := fun h => hcl 6 _ rfl h
        have c8 := fun h => hcl 8 _ rfl h
        have c9 := fun h => hcl 9 _ rfl h
        have c10 := fun h => hcl 10 _ rfl h
        have c11 := fun h => hcl 11 _ rfl h
        have c12 := fun h => hcl 12 _ rfl h
        have c13 := fun h => hcl 13 _ rfl h
        simp [Region.binds] at c2 c4 c5 c6 c8 c9 c10 c11 c12 c13
        have h13 : f 13 = false := by
          cases h1 : f 13 with
          | false => rfl
          | true =>
            exfalso
            obtain ⟨k0, k2, k12, _⟩ := c13 h1
            have k11 := c12 k12
            obtain ⟨k10, k8⟩ := c11 k11
            have k9 := c10 k10
            have k6 := c9 k9
            have k5 := c6 k6
            have k4 := c5 k5
            have k3 := c4 k4
            have k7 := c8 k8
            have k1 := c2 k2
            rcases i' with _ | _ | _ | _ | _ | _ | _ | _ | _ | _ | _ | _ | _ | _ | i'
            all_goals try simp only [Nat.zero_add, Nat.reduceAdd] at hfi
            all_goals first | omega | simp_all
        clear hcl c2 c4 c5 c6 c8 c9 c10 c11 c12 c13 hG
        have B1 := hB h13
        obtain ⟨q1, q2, q3, q4, q5, q6, q7, q8⟩ := HC.out W' B1
        have hi2 : (i : Int) < 64 := by omega
        clear hB
        rcases i' with _ | _ | _ | _ | _ | _ | _ | _ | _ | _ | _ | _ | _ | _ | i'
        rotate_right
        · exfalso; omega
        all_goals try simp only [Nat.zero_add, Nat.reduceAdd] at hfi ho ⊢
        all_goals simp at ho
        all_goals subst ho
        all_goals simp [Region.binds] at hpre
        all_goals clear hi'
        all_goals try (refine wpOpIn_of rfl rfl ?_; (try simp only [hpre, selo_true]); go_simp; refine ⟨v34, ?_, fun _ => B1, fun h => absurd (show f 13 = true from h) (by rw [h13]; decide)⟩; simp [more, selo, hpre, h13]; done)
        · refine wpOpIn_of rfl rfl ?_
          simp only [hpre, selo_true]
          go_simp
          refine ⟨trivial, ?_⟩
          refine (callsIn_wide.2 (buffer_ok i y W' (by omega) (by omega) (by omega) (by omega))).mono ?_
          rintro e w5 ⟨rfl, hb5⟩
          refine ⟨v34, ?_, fun _ => bel2 B1 hb5, fun h => absurd (show f 13 = true from h) (by rw [h13]; decide)⟩
          simp [more, selo, hpre, h13]
        · obtain ⟨fn, tmps, assign, body, hy, hR⟩ := HY2.out W' B1
          refine wpOpIn_of rfl rfl ?_
          simp only [hpre, selo_true]
          go_simp
          refine hR.mono ?_
          rintro e W3 (⟨rfl, hJ3, hK3⟩ | ⟨rfl, hX⟩)
          · refine ⟨.bool true, ?_, fun h => by simp [more] at h, fun _ => .inl ⟨rfl, hJ3, hK3⟩⟩
            simp [more, selo, hpre]
          · refine ⟨.bool false, ?_, fun h => by simp [more] at h, fun _ => .inr ⟨rfl, hX⟩⟩
            simp [more, selo, hpre]
      · rintro f a W' ⟨v34, rfl, hB, hG⟩ hal
        obtain ⟨k0, k1, k2, k3, k4, k5, k6, k7, k8, k9⟩ : (f 0 = true ∧ f 1 = true ∧ f 2 = true ∧ f 3 = true ∧ f 4 = true ∧ f 5 = true ∧ f 6 = true ∧ f 7 = true ∧ f 8 = true ∧ f 9 = true) := ⟨hal _ (by decide), hal _ (by decide), hal _ (by decide), hal _ (by decide), hal _ (by decide), hal _ (by decide), hal _ (by decide), hal _ (by decide), hal _ (by decide), hal _ (by decide)⟩
        obtain ⟨k10, k11, k12, k13⟩ : (f 10 = true ∧ f 11 = true ∧ f 12 = true ∧ f 13 = true) := ⟨hal _ (by decide), hal _ (by decide), hal _ (by decide), hal _ (by decide)⟩
        have hg := hG k13
        clear hB hG hal
        simp only [k0, k1, k2, k3, k4, k5, k6, k7, k8, k9, k10, k11, k12, k13, selo_true]
        clear k0 k1 k2 k3 k4 k5 k6 k7 k8 k9 k10 k11 k12 k13
        generalize slots_u [u21, u22, u23, u24, u25, u26, u27, u28, u29, u30, u31, u32, u33, u34, u35] 35 = x35
        refine wpOpIn_of rfl rfl ?_
        rcases hg with ⟨rfl, hJ3, hK3⟩ | ⟨rfl, hX⟩
        · have HJ4 := Lib.hid hJ3
          have HK4 := Lib.hid (HK.out.trans hK3)
          have HS4 := Lib.hid (HS2.out.kp hK3)
          clear hJ3 hK3 HC HY2
          go_simp
          gi_wp2
          go_roundw
          case rel => exact ⟨j + 1, by omega, by go_num, HJ4.out, HK4.out, HS4.out⟩
          case measure => simp [intOf]; omega
        · have HJ4 := Lib.hid hX
          clear hX HC HY2
          go_simp
          gi_wp2
          refine bodyPost_ret (results_none rfl _ _ _) rfl ?_
          exact ⟨⟨_, rfl⟩, .inr ⟨L.take (j + 1), List.take_prefix _ _, HJ4.out⟩⟩
    · have hp2 := HJ.out
      rw [List.take_of_length_le (by rw [HN.out]; omega)] at hp2
      have HP2 := Lib.hid hp2
      clear hp2
      gi_wp2
      go_end0
      exact ⟨⟨_, rfl⟩, .inl ⟨_, rfl, HP2.out⟩⟩
theorem pin_stops (n : Nat) (hn : 1 ≤ n) (Bs n₀ b s k : Nat) (P : Po) (X : Nat → Prop) (w : World) (hA : PinAt w X n₀ Bs b s k P) :
    SeqStopsK Fence.wide n Try.prog 49 #[.pointer (some ⟨Bs, 0, none⟩)] (encP P) (KpR X n₀) (fun ys => ys = P.t.now) (fun pre => pre <+: P.t.now) P.t.now.length w := fun l J Jx W hW hJ _ hY h0 =>
  pin1_in n hn l Bs n₀ b s k W.heap.size P X J Jx hJ hY W (hA.kp (KpR.of_below hW hA.sz)) h0
theorem pin_none (n : Nat) (hn : 1 ≤ n) (Bs : Nat) (v : Option Addr) (P : Po) (Kp : World → World → Prop) (w : World) (hv : PInv w v) (hbs : w.cell? ⟨Bs, 0, none⟩ = some (.pointer v)) :
    SeqStopsK Fence.wide n Try.prog 49 #[.pointer (some ⟨Bs, 0, none⟩)] (encP P) Kp (fun ys => ys = []) (fun _ => False) 0 w := fun l J Jx W hW _ _ hY h0 => by
  have hbs2 := (hW.cell (p := ⟨Bs, 0, none⟩) (World.block_lt_of_cell? _ _ hbs)).trans hbs
  have HV := Lib.hid (hv.below hW)
  have H0 := Lib.hid h0
  clear hv hbs h0 hY hW
  refine callsIn_of_wp Try.func49 rfl trivial ?_ rfl
  simp only [Try.ntmps49, List.size_toArray, List.length_cons, List.length_nil, Nat.reduceAdd, Nat.reduceSub, Array.replicate_succ, Array.replicate_zero, List.push_toArray, List.append_toArray, List.nil_append, List.cons_append]
  gi_wp2_with (refine ⟨trivial, ?_⟩; gi_at_call 27; refine (callsIn_wide.2 (pvalid_no _ _ HV.out)).mono ?_; rintro e w' ⟨rfl, rfl⟩)
  refine bodyPost_ret (results_none rfl _ _ _) rfl ?_
  exact ⟨⟨_, rfl⟩, .inl ⟨_, rfl, H0.out⟩⟩
end Go.Proofs.Ytjhgckaaaonbiaa
