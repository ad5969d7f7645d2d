/- The contracts of the program's Len, put and Add. -/
import Derived.Test.YtenggngcigkakaaGreatDoorHa
namespace Go.Proofs.YtenggngcigkakaaGreatDoor
open Go.RowKit Go.ChangeShapes

/-- The cells of a ledger and of its book. -/
theorem BookW.cells {w : World} {bk m lo : Nat} {v : Value} {l : List Att} (h : BookW w bk m v lo l) : ∃ a c, v = .slice a l.length c ∧ w.cell? ⟨bk, 0, none⟩ = some (.slice a l.length c) ∧ w.cell? ⟨bk, 1, none⟩ = some (.map (some m)) ∧ w.frozen? ⟨bk, 0, none⟩ = false ∧ RdA w (.slice a l.length c) l := by
  obtain ⟨a, c, e, hr⟩ := (RdA.of_own h.row).len
  subst e
  exact ⟨a, c, rfl, h.hk.cell 0, h.hk.cell 1, h.hk.frozen 0, hr⟩
theorem LedW.cell {w : World} {b bk lo : Nat} {l : List Att} (h : LedW w b bk lo l) : w.cell? ⟨b, 0, none⟩ = some (.pointer (some ⟨bk, 0, none⟩)) := h.hb.cell 0

/-! ### Len -/
theorem valid_no (p : Option Addr) (w : World) (h : Inv w p) : Calls Tryz.prog 50 #[.pointer p] w fun e w' => e = .returned (.bool false) ∧ w = w' := by
  rcases h with rfl | ⟨b, rfl, h⟩
  · go_enter Tryz.func50, Tryz.ntmps50
    go_wp2
    go_ret
    exact ⟨rfl, rfl⟩
  · have hc : w.cell? ⟨b, 0, none⟩ = some (.pointer none) := h.cell 0
    clear h
    go_enter Tryz.func50, Tryz.ntmps50
    go_wp2
    go_ret
    exact ⟨rfl, rfl⟩
theorem valid_yes (b bk : Nat) (w : World) (hc : w.cell? ⟨b, 0, none⟩ = some (.pointer (some ⟨bk, 0, none⟩))) : Calls Tryz.prog 50 #[.pointer (some ⟨b, 0, none⟩)] w fun e w' => e = .returned (.bool true) ∧ w = w' := by
  go_enter Tryz.func50, Tryz.ntmps50
  go_wp2
  go_ret
  exact ⟨rfl, rfl⟩
theorem len_no (p : Option Addr) (w : World) (h : Inv w p) : Calls Tryz.prog 29 #[.pointer p] w fun e w' => e = .returned (.int .i64 0) ∧ w = w' := by
  go_enter Tryz.func29, Tryz.ntmps29
  go_wp2_with (go_at_call 50; refine (valid_no _ _ h).mono ?_; rintro e w' ⟨rfl, rfl⟩)
  go_ret
  exact ⟨rfl, rfl⟩
theorem len_ok (b bk lo : Nat) (l : List Att) (w : World) (h : LedW w b bk lo l) : Calls Tryz.prog 29 #[.pointer (some ⟨b, 0, none⟩)] w fun e w' => e = .returned (.int .i64 l.length) ∧ w = w' := by
  have hc := h.cell
  have hl := h.len
  obtain ⟨m, v, hB⟩ := h.book
  obtain ⟨a, c, _, h0, _, _, hr⟩ := hB.cells
  clear h hB hr
  go_enter Tryz.func29, Tryz.ntmps29
  go_wp2_with (go_at_call 50; refine (valid_yes _ _ _ hc).mono ?_; rintro e w' ⟨rfl, rfl⟩)
  go_ret
  exact ⟨rfl, rfl⟩

/-! ### put -/
theorem step_append_run {w : World} {ops : Array Oper} {o : Oper} {a : Act} {K : Act → World → Prop} {Q : Exit → Act → World → Prop} {E : Prop} (hgd : o.guard = none) (dst : Option Nat) (hd : o.dst = dst) (s x : Operand) (t tn : TypeId)
    (ho : o.op = .call { callee := .builtin .append, args := #[s, x], argTypes := #[t, tn] }) (vs vx : Value) (hs : a.eval s = vs) (hx : a.eval x = vx)
    (v' : Value) (w' : World) (hr : (Builtin.append_ #[t, tn] o.type #[vs, vx]).run Tryz.prog w = .ok v' w') (h : K (a.put dst v') w') :
    if Region.wanted o (yielded ops a.tmps) = true then Oper.wp Tryz.prog o a w K Q else E := by
  have hw : Region.wanted o (yielded ops a.tmps) = true := by simp [Region.wanted, hgd]
  rw [if_pos hw]
  exact Lib.wp_append_run w s x t tn ho vs vx hs hx v' w' hr (by rw [hd]; exact h)

/-- What put reads while it goes: its book's cells, and its own copy of the attempt in block x. -/
def PutS (W : World) (bk m n : Nat) (sa : Option Addr) (sc x : Nat) (a : Att) : Prop :=
  W.cell? ⟨bk, 0, none⟩ = some (.slice sa n sc) ∧ W.cell? ⟨bk, 1, none⟩ = some (.map (some m)) ∧ Six W x 0 a
set_option maxRecDepth 100000 in
set_option maxHeartbeats 4000000 in
/-- The walk of put: the runs of its operations are given. -/
theorem put_walk (bk m n : Nat) (sa : Option Addr) (sc : Nat) (a : Att) (st : Int) (v0 v1 : Value) (sa2 : Option Addr) (n2 sc2 : Nat) (w A B C D : World) (hn : n ≤ 10000) (hsc : sc ≤ 9223372036854775807) (hnc : n ≤ sc)
    (h0 : w.cell? ⟨bk, 0, none⟩ = some (.slice sa n sc)) (h1 : w.cell? ⟨bk, 1, none⟩ = some (.map (some m))) (hlt : bk < w.heap.size)
    (hme : (Instr.mapEntry 77 (.map (some m)) (okey a.k a.i a.g)).run Tryz.prog (w.alloc (.cells #[.int .i64 a.t, .int .i64 a.k, .int .i64 a.i, .int .u32 a.g, .int .i64 a.y, .int .i64 a.n] 32)).drew = .ok (.tuple #[v0, .int .i64 st]) A)
    (hme2 : (Instr.mapEntry 77 (.map (some m)) (okey a.k a.i a.g)).run Tryz.prog ((w.alloc (.cells #[.int .i64 a.t, .int .i64 a.k, .int .i64 a.i, .int .u32 a.g, .int .i64 a.y, .int .i64 a.n] 32)).alloc (.cells #[.int .i64 n] 3)).drew = .ok (.tuple #[v0, .int .i64 st]) (A.alloc (.cells #[.int .i64 n] 3)))
    (hA : PutS A bk m n sa sc w.heap.size a) (hAs : A.heap.size = w.heap.size + 1)
    (hap : (Builtin.append_ #[118, 118] 118 #[v0, .slice (some ⟨w.heap.size + 1, 0, none⟩) 1 1]).run Tryz.prog (A.alloc (.cells #[.int .i64 n] 3)) = .ok v1 B)
    (hB : PutS B bk m n sa sc w.heap.size a)
    (hes : (Instr.entryStore 77 (.map (some m)) (.int .i64 st) v1).run Tryz.prog B = .ok () C)
    (hC : PutS C bk m n sa sc w.heap.size a) (hCl : bk < C.heap.size)
    (hap2 : (Builtin.append_ #[22, 22] 22 #[.slice sa n sc, .slice (some ⟨C.heap.size, 0, none⟩) 1 1]).run Tryz.prog (C.alloc (.cells #[.int .i64 a.t, .int .i64 a.k, .int .i64 a.i, .int .u32 a.g, .int .i64 a.y, .int .i64 a.n] 32)).drew = .ok (.slice sa2 n2 sc2) D)
    (hD : PutS D bk m n sa sc w.heap.size a) (hDf : D.frozen? ⟨bk, 0, none⟩ = false) :
    Calls Tryz.prog 51 #[.pointer (some ⟨bk, 0, none⟩), a.val] w fun e w' => e = .returned (.tuple #[]) ∧ D.setCell ⟨bk, 0, none⟩ (.slice sa2 n2 sc2) = w' := by
  obtain ⟨t, k, i, g, y, n'⟩ := a
  unfold PutS Six at hA hB hC hD
  simp only [Att.val, okey, Nat.zero_add] at *
  obtain ⟨hA0, hA1, a0, a1, a2, a3, a4, a5⟩ := hA
  obtain ⟨hB0, hB1, b0, b1, b2, b3, b4, b5⟩ := hB
  obtain ⟨hC0, hC1, c0, c1, c2, c3, c4, c5⟩ := hC
  obtain ⟨hD0, hD1, d0, d1, d2, d3, d4, d5⟩ := hD
  go_enter Tryz.func51, Tryz.ntmps51
  go_wp2
  go_region_held_law (fun W => W.cell? ⟨bk, 0, none⟩ = some (.slice sa n sc) ∧ W.cell? ⟨bk, 1, none⟩ = some (.map (some m)) ∧ W.cell? ⟨w.heap.size, 1, none⟩ = some (.int .i64 k) ∧ W.cell? ⟨w.heap.size, 2, none⟩ = some (.int .i64 i) ∧ W.cell? ⟨w.heap.size, 3, none⟩ = some (.int .u32 g)) (first | (exact ⟨hA0, hA1, a1, a2, a3⟩) | (exact ⟨hB0, hB1, b1, b2, b3⟩) | (exact ⟨hC0, hC1, c1, c2, c3⟩) | (go_simp; done) | go_keep)
    ((refine step_append_run (by rfl) (some 18) (by rfl) _ _ _ _ (by rfl) _ _ (by rfl) (by rfl) _ _ hap ?_))
  clear hme hme2 hap hes hA0 hA1 a0 a1 a2 a3 a4 a5 hB0 hB1 b0 b1 b2 b3 b4 b5
  all_goals
    go_wp2
    go_region_law (refine step_append_run (by rfl) (some 27) (by rfl) _ _ _ _ (by rfl) _ _ (by rfl) (by rfl) _ _ hap2 ?_)
    all_goals
      go_wp2
      go_end0
      exact ⟨rfl, rfl⟩
end Go.Proofs.YtenggngcigkakaaGreatDoor
