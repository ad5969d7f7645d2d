/- The contract of All. -/
import Derived.Test.YtpinmiplefidpaaGreatDoorOe
namespace Go.Proofs.YtpinmiplefidpaaGreatDoor
open Go.RowKit

/-- append(s, x...): s a slice of one's own, x any slice that reads as m. -/
theorem wpList_append_ro {w : World} {ops : Array Oper} {rest : List Oper} {o : Oper} {a : Act} {Q : Exit → Act → World → Prop} (hgd : o.guard = none) (s x : Operand)
    (ho : o.op = .call { callee := .builtin .append, args := #[s, x], argTypes := #[51, 51] })
    (base : Nat) (v : Value) (n : Nat) (xs : List Value) (hs : a.eval s = v) (hown : w.ownsRow base 25 3 v n xs)
    (vx : Value) (m : List Ro) (hx : a.eval x = vx) (hm : RdO w vx m) (h63 : n + m.length ≤ 1000000) (hbase : base ≤ w.heap.size)
    (h : ∀ v' w', w'.ownsRow base 25 3 v' (n + m.length) (xs ++ ocls m) → w.grownBy w' v.ownBlock → wpList Tryz.prog ops Q rest (a.put o.dst v') w') : wpList Tryz.prog ops Q (o :: rest) a w := by
  obtain ⟨i0, hi, hz0, hz1, hz2⟩ := info_parts info_out
  obtain ⟨a0, c, rfl, h1, h2, h3, h4⟩ := hm
  cases a0 with
  | none =>
    have hc0 := h3 rfl
    subst hc0
    have : m = [] := List.eq_nil_of_length_eq_zero (by omega)
    subst this
    exact wpList_append_own_none hgd s x 51 ho base 25 i0 3 Tryz.underlying51 hi v n xs hs hown hx (h v w (by simpa [ocls] using hown) (World.grownBy.refl w _))
  | some b =>
    refine wpList_append_own _ hgd s x 51 ho base 25 i0 _ 3 24 Tryz.underlying51 hi hz0 hz1 hz2 rfl (by decide) v n xs hs hown b m.length c (ocls m) hx (ocls_length m) (fun j u hj => ?_) (ocls_one m) (by unfold maxLen; omega) (by omega) hbase (fun v' w' h5 h6 _ => h v' w' h5 h6)
    have hjl := (List.getElem?_eq_some_iff.1 hj).1
    rw [ocls_length] at hjl
    obtain ⟨g, off, e2, hg, hc⟩ := h4 (by omega)
    obtain rfl := Option.some.inj e2
    have e : (⟨g, off, none⟩ : Addr).add j = ⟨g, off + j, none⟩ := by unfold Addr.add; split <;> simp_all
    rw [e]
    exact hc j u hj
theorem grown_kept {w w' : World} {r : Option Nat} (h : w.grownBy w' r) : Kept (fun g => r = some g) w w' := ⟨h.os, h.tape, h.output, h.size, fun k hk hs => h.block k hk fun e => hs e.symm⟩
theorem wall_no (p : Option Addr) (w : World) (h : WInv w p) : Calls Tryz.prog 35 #[.pointer p] w fun e w' => e = .returned (.slice none 0 0) ∧ w = w' := by
  have H := Lib.hid h
  clear h
  go_enter Tryz.func35, Tryz.ntmps35
  go_wp2_with (go_at_call 62; refine (wvalid_no _ _ H.out).mono ?_; rintro e w' ⟨rfl, rfl⟩)
  go_ret
  exact ⟨rfl, rfl⟩
set_option maxRecDepth 100000 in
set_option maxHeartbeats 1000000 in
theorem wall_ok (A : Ad) (W : Wd) (w : World) (h : WW w A W) :
    Calls Tryz.prog 35 #[ptr A.b] w (LS.NewO W.all w) := by
  have H := Lib.hid h
  have hc := h.c0
  have h0 := h.p0
  have h1 := h.p1
  have h2 := h.p2
  have hl1 := h.ok.F.held_len
  have hl2 := h.ok.P.held_len
  have hl3 := h.ok.D.held_len
  rw [← FD.Fb.all_len] at hl1
  rw [← BF.Po.all_len] at hl2
  rw [← LS.Dk.all_len] at hl3
  have hme := mF_all A.f
  have hmp := mP_all A.q
  have hmd := mD_all A.d
  clear h
  have i0 : ∀ (f q d : Nat) (w : World), (Instr.index 101 (.agg #[.iface 94 (.agg #[.pointer (some ⟨f, 0, none⟩)]), .iface 96 (.agg #[.pointer (some ⟨q, 0, none⟩)]), .iface 98 (.agg #[.pointer (some ⟨d, 0, none⟩)])]) (.int .i64 0)).run Tryz.prog w = .ok (.iface 94 (.agg #[.pointer (some ⟨f, 0, none⟩)])) w := fun _ _ _ _ => by kernel_rfl
  have i1 : ∀ (f q d : Nat) (w : World), (Instr.index 101 (.agg #[.iface 94 (.agg #[.pointer (some ⟨f, 0, none⟩)]), .iface 96 (.agg #[.pointer (some ⟨q, 0, none⟩)]), .iface 98 (.agg #[.pointer (some ⟨d, 0, none⟩)])]) (.int .i64 1)).run Tryz.prog w = .ok (.iface 96 (.agg #[.pointer (some ⟨q, 0, none⟩)])) w := fun _ _ _ _ => by kernel_rfl
  have i2 : ∀ (f q d : Nat) (w : World), (Instr.index 101 (.agg #[.iface 94 (.agg #[.pointer (some ⟨f, 0, none⟩)]), .iface 96 (.agg #[.pointer (some ⟨q, 0, none⟩)]), .iface 98 (.agg #[.pointer (some ⟨d, 0, none⟩)])]) (.int .i64 2)).run Tryz.prog w = .ok (.iface 98 (.agg #[.pointer (some ⟨d, 0, none⟩)])) w := fun _ _ _ _ => by kernel_rfl
  unfold ptr vF vP vD at *
  go_enter Tryz.func35, Tryz.ntmps35
  go_wp2_with (go_at_call 62; refine (wvalid_yes _ _ _ hc).mono ?_; rintro e w' ⟨rfl, rfl⟩)
  refine wp_loop_rounds 4 ?_
  rw [rounds_succ]; go_wp2_with fail
  refine (FD.fall_ok A.f A.fk A.fm W.F _ H.out.hF).mono ?_
  rintro e w1 ⟨p1, c1, rfl, o1, b1⟩
  have R1 := Lib.hid (RdO.of_own o1)
  have B1 := Lib.hid b1
  have N0 := Lib.hid (World.ownsRow_nil w1 w.heap.size 25 3)
  clear o1 b1 hme
  go_wp2_with (at_builtin; refine wpList_append_ro rfl _ _ rfl w.heap.size _ 0 [] rfl N0.out _ W.F.all rfl R1.out (by omega) B1.out.size ?_)
  rintro v2 w2 o2 g2
  have B2 := Lib.hid (B1.out.trans ((grown_kept g2).below B1.out.size fun g e => by simp [Value.ownBlock] at e))
  obtain ⟨p2, c2, rfl⟩ := own_form o2
  have O2 := Lib.hid o2
  clear o2 g2
  go_wp2
  rw [rounds_succ]; go_wp2_with fail
  refine (BF.pall_ok A.q A.qs A.qk W.P _ (H.out.below B2.out).1.hP).mono ?_
  rintro e w3 ⟨p3, c3, rfl, o3, b3⟩
  have R3 := Lib.hid (RdO.of_own o3)
  have O3 := Lib.hid (own_below O2.out b3)
  have B3 := Lib.hid (B2.out.trans (b3.mono B2.out.size))
  clear o3 b3 hmp
  go_wp2_with (at_builtin; refine wpList_append_ro rfl _ _ rfl w.heap.size _ W.F.all.length (ocls W.F.all) rfl O3.out _ W.P.all rfl R3.out (by omega) B3.out.size ?_)
  rintro v4 w4 o4 g4
  have B4 := Lib.hid (B3.out.trans ((grown_kept g4).below B3.out.size fun g e => (O3.out.lt g e).1))
  rw [← List.length_append, ← ocls_append] at o4
  obtain ⟨p4, c4, rfl⟩ := own_form o4
  have O4 := Lib.hid o4
  have hl4 : (W.F.all ++ W.P.all).length ≤ 128 := by rw [List.length_append]; omega
  clear o4 g4
  generalize hM : W.F.all ++ W.P.all = M at *
  go_wp2
  rw [rounds_succ]; go_wp2_with fail
  refine (LS.dall_ok A.d A.dk A.da W.D _ (H.out.below B4.out).1.hD).mono ?_
  rintro e w5 ⟨p5, c5, rfl, o5, b5⟩
  have R5 := Lib.hid (RdO.of_own o5)
  have O5 := Lib.hid (own_below O4.out b5)
  have B5 := Lib.hid (B4.out.trans (b5.mono B4.out.size))
  clear o5 b5 hmd
  go_wp2_with (at_builtin; refine wpList_append_ro rfl _ _ rfl w.heap.size _ M.length (ocls M) rfl O5.out _ W.D.all rfl R5.out (by omega) B5.out.size ?_)
  rintro v6 w6 o6 g6
  have B6 := Lib.hid (B5.out.trans ((grown_kept g6).below B5.out.size fun g e => (O5.out.lt g e).1))
  rw [← List.length_append, ← ocls_append] at o6
  have hAll : M ++ W.D.all = W.all := by rw [← hM]; rfl
  rw [hAll] at o6
  obtain ⟨p6, c6, rfl⟩ := own_form o6
  have O6 := Lib.hid o6
  clear o6 g6 hAll
  go_wp2
  rw [rounds_succ]; go_wp2
  go_ret
  exact ⟨p6, c6, rfl, O6.out, B6.out⟩
end Go.Proofs.YtpinmiplefidpaaGreatDoor
