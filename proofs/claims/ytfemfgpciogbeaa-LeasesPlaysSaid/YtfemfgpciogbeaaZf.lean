/- The contracts of the document's All and Len. -/
import Derived.Lib.AppendZeros
import Derived.Deep.RegionLaw
import Derived.Test.YtfemfgpciogbeaaZe
import Derived.Test.YtfemfgpciogbeaaZv
namespace Go.Proofs.Ytfemfgpciogbeaa
open Go.RowKit

theorem step_append_run {w : World} {ops : Array Oper} {o : Oper} {a : Act} {K : Act → World → Prop} {Q : Exit → Act → World → Prop} {E : Prop} (hgd : o.guard = none) (dst : Option Nat) (hd : o.dst = dst) (s x : Operand) (t tn : TypeId)
    (ho : o.op = .call { callee := .builtin .append, args := #[s, x], argTypes := #[t, tn] }) (vs vx : Value) (hs : a.eval s = vs) (hx : a.eval x = vx)
    (v' : Value) (w' : World) (hr : (Builtin.append_ #[t, tn] o.type #[vs, vx]).run Try.prog w = .ok v' w') (h : K (a.put dst v') w') :
    if Region.wanted o (yielded ops a.tmps) = true then Oper.wp Try.prog o a w K Q else E := by
  have hw : Region.wanted o (yielded ops a.tmps) = true := by simp [Region.wanted, hgd]
  rw [if_pos hw]
  exact Lib.wp_append_run w s x t tn ho vs vx hs hx v' w' hr (by rw [hd]; exact h)
theorem eall_nil (w : World) : Calls Try.prog 29 #[.pointer none] w fun e w' => e = .returned (.slice none 0 0) ∧ w = w' := by
  go_enter Try.func29, Try.ntmps29
  go_wp2_with (go_at_call 43; refine (evalid_nil _).mono ?_; rintro e w' ⟨rfl, rfl⟩)
  go_ret
  exact ⟨rfl, rfl⟩
theorem elen_nil (w : World) : Calls Try.prog 26 #[.pointer none] w fun e w' => e = .returned (.int .i64 0) ∧ w = w' := by
  go_enter Try.func26, Try.ntmps26
  go_wp2_with (go_at_call 29; refine (eall_nil _).mono ?_; rintro e w' ⟨rfl, rfl⟩)
  go_ret
  exact ⟨rfl, rfl⟩
set_option maxRecDepth 100000 in
set_option maxHeartbeats 4000000 in
theorem eall_ok (q c d g : Nat) (D : Dk) (w : World) (h : QW w q c d g D) : Calls Try.prog 29 #[.pointer (some ⟨q, 0, none⟩)] w (NewO D.all w) := by
  obtain ⟨_, c0, c1, _⟩ := h.cells
  have TK := Lib.hid (rtaken_ok c d D.t w h.tab)
  have HT : Hid (∀ j r, D.t.now[j]? = some r → D.all.take (j + 1) = D.all.take j ++ [lro r]) := fun j r => Dk.all_take
  have HG : Hid (∀ (j : Nat) (r : Nat × Nat), D.t.now[j]? = some r → r.1 ≤ 255 ∧ r.2 ≤ 4294967295) := fun j (r : Nat × Nat) hr => by
    obtain ⟨a1, _, a3⟩ := Tb.now_at hr
    have := h.ok.hi
    have := h.ok.t.gm r.1
    omega
  obtain ⟨m, hm⟩ : ∃ m, D.t.now.length = m := ⟨_, rfl⟩
  have hm64 : m ≤ 64 := by have := Tb.now_len D.t; have := h.ok.hi; have := sel_len D.t.s 1 D.t.n; unfold Tb.held at *; omega
  have HM : Hid (D.all.length = m) := by unfold Hid; rw [Dk.all_len, ← Tb.now_len]; exact hm
  have HN := Lib.hid hm
  have O0 : Hid (∀ W V : World, W.ownsRow V.heap.size 33 3 (.slice none 0 0) (D.all.take 0).length (ocls (D.all.take 0))) := fun _ _ => World.ownsRow_nil _ _ _ _
  have hmz : (m : Int) ≤ 64 := by omega
  clear h
  go_enter Try.func29, Try.ntmps29
  go_wp2_with (first
    | (go_at_call 43; refine (evalid_yes _ _ c0).mono ?_; rintro e w' ⟨rfl, rfl⟩)
    | (go_at_call 60; refine TK.out.mono ?_; rintro e w2 ⟨a, cc, rfl, hs, hb⟩; rw [hm] at hs ⊢; have RS := Lib.hid hs; have HB := Lib.hid hb; clear hs hb))
  go_loopw [3, 5] (fun v u wr => ∃ (j : Nat) (p : Option Addr) (c' : Nat), j ≤ m ∧ v = .slice p j c' ∧ u = .int .i64 j ∧ Hid (wr.ownsRow w2.heap.size 33 3 (.slice p j c') (D.all.take j).length (ocls (D.all.take j))) ∧ Hid (Below w2.heap.size w2 wr)) (fun _ u _ => m - (intOf u).toNat)
  case atStart => exact ⟨0, none, 0, Nat.zero_le _, rfl, rfl, O0.out _ _, Below.refl _ _⟩
  case round =>
    clear O0
    obtain ⟨j, p, c', hj, rfl, rfl, HO, HB2⟩ := hrel
    by_cases hlt : j < m
    · obtain ⟨r, hr⟩ : ∃ r, D.t.now[j]? = some r := ⟨_, List.getElem?_eq_getElem (by rw [HN.out]; exact hlt)⟩
      obtain ⟨b1, b2⟩ := HG.out j r hr
      obtain ⟨gs, rfl, s1, s2, s3⟩ := (RS.out.below HB2.out).at hr
      have NX := Lib.hid (HT.out j r hr)
      obtain ⟨i, z⟩ := r
      simp only at b1 b2 s2 s3
      have hjz : (j : Int) < m := by omega
      have HJ : Hid ((D.all.take j).length = j) := by unfold Hid; rw [List.length_take, HM.out]; omega
      have hb2 : w2.heap.size ≤ wr.heap.size := HB2.out.size
      obtain ⟨p2, c2, w8, hrun, hA⟩ := app_o (W := (wr.alloc (.cells #[.int .i64 3, .int .i64 i, .int .u32 z] 33)).drew) (base := w2.heap.size) (x := wr.heap.size) (r := ⟨3, i, z⟩) HJ.out (HO.out.alloc _ |> fun h => own_same h fun _ _ => rfl) ((Bk.new wr 33 #[.int .i64 3, .int .i64 i, .int .u32 z]).same rfl) (by rw [HJ.out]; omega) (by simp; omega)
      have HA := Lib.hid hA
      clear hA hr
      go_wp2
      have HR := Lib.hid hrun
      have HF : Hid (w8.ownsRow w2.heap.size 33 3 (.slice p2 (j + 1) c2) (D.all.take (j + 1)).length (ocls (D.all.take (j + 1))) ∧ Below w2.heap.size w2 w8) := by
        obtain ⟨h1, h2⟩ := HA.out
        rw [← show D.all.take (j + 1) = D.all.take j ++ [⟨3, (i : Int), (z : Int)⟩] from NX.out] at h1
        have hw1 : Below wr.heap.size wr (wr.alloc (.cells #[.int .i64 3, .int .i64 i, .int .u32 z] 33)).drew := bel_drew (bal _ _)
        exact ⟨h1, (HB2.out.trans (hw1.mono hb2)).trans (h2.below (by simp; omega) fun g e => (HO.out.lt g e).1)⟩
      clear HA
      go_region_law (refine step_append_run (by rfl) (some 33) (by rfl) _ _ _ _ (by rfl) _ _ (by rfl) (by rfl) _ _ HR.out ?_)
      all_goals
        go_wp2
        go_roundw
        case rel => exact ⟨j + 1, p2, c2, by omega, rfl, by go_num, HF.out.1, HF.out.2⟩
        case measure => simp [intOf]; omega
    · obtain rfl : j = m := by omega
      go_wp2
      go_ret
      have ho := HO.out
      rw [List.take_of_length_le (by rw [HM.out]; exact Nat.le_refl _)] at ho
      have hq := HM.out
      subst hq
      exact ⟨p, c', rfl, own_lower ho HB.out.size, HB.out.trans (HB2.out.mono HB.out.size)⟩
end Go.Proofs.Ytfemfgpciogbeaa
