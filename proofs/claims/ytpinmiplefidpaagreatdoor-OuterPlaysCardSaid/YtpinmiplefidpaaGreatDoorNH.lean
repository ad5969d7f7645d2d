/- The layer H, joined. -/
import Derived.Test.YtpinmiplefidpaaGreatDoorMH
namespace Go.Proofs.YtpinmiplefidpaaGreatDoor.LG
open Go.RowKit Go.ChangeShapes

theorem rd_slice {w : World} {v : Value} {l : List Att} (h : RdA w v l) : ∃ p c, v = .slice p l.length c := by
  obtain ⟨a, c, e, _⟩ := h
  exact ⟨a, c, e⟩
theorem own_form {w : World} {base n s g : Nat} {v : Value} {e : TypeId} {xs : List Value} (h : w.ownsRow base e s v n xs) (hg : v.ownBlock = some g) : ∃ c, v = .slice (some ⟨g, 0, none⟩) n c := by
  rcases h.2 with ⟨rfl, _⟩ | ⟨g', cap, cur, rfl, _⟩
  · cases hg
  · obtain rfl : g' = g := by simpa [Value.ownBlock] using hg
    exact ⟨_, rfl⟩
/-- An own row stays where another row turns. -/
theorem own_kept {w w' : World} {base n s : Nat} {v : Value} {e : TypeId} {xs : List Value} {S : Nat → Prop} (h : w.ownsRow base e s v n xs) (hk : Kept S w w') (hs : ∀ g, v.ownBlock = some g → ¬ S g) : w'.ownsRow base e s v n xs :=
  own_same h fun g hg => hk.block g (h.lt g hg).2 (hs g hg)

section
variable {w w' : World} {b lo : Nat} {v : Value} {l : List Att}
theorem RefW.below (h : RefW w b v lo l) (hb : Below w.heap.size w w') : RefW w' b v lo l := ⟨h.ok, h.len, h.hb.below hb, own_below h.row hb, h.lb⟩
theorem RefW.kept (h : RefW w b v lo l) {S : Nat → Prop} (hk : Kept S w w') (h1 : ¬ S b) (h2 : ∀ g, v.ownBlock = some g → ¬ S g) : RefW w' b v lo l := ⟨h.ok, h.len, h.hb.kept hk h1, own_kept h.row hk h2, h.lb⟩
theorem RefW.cells (h : RefW w b v lo l) : ∃ p c, v = .slice p l.length c ∧ w.cell? ⟨b, 0, none⟩ = some (.bool true) ∧ w.cell? ⟨b, 1, none⟩ = some (.slice p l.length c) ∧ w.frozen? ⟨b, 1, none⟩ = false ∧ RdA w (.slice p l.length c) l := by
  have hr := RdA.of_own h.row
  obtain ⟨p, c, rfl⟩ := rd_slice hr
  exact ⟨p, c, rfl, h.hb.cell 0, h.hb.cell 1, h.hb.frozen 1, hr⟩
end
set_option maxRecDepth 100000 in
theorem rnew_ok (w : World) : Calls Tryz.prog 61 #[] w fun e w' => e = .returned (.pointer (some ⟨w.heap.size, 0, none⟩)) ∧ RefW w' w.heap.size (.slice none 0 0) w.heap.size [] ∧ Below w.heap.size w w' := by
  have HB := Lib.hid (bel_new w (.cells #[.bool true, .slice none 0 0] 140))
  have hx := Bk.new w 140 #[.bool true, .slice none 0 0]
  have HX := Lib.hid hx
  clear hx
  go_enter Tryz.func61, Tryz.ntmps61
  go_wp2
  go_ret
  exact ⟨rfl, ⟨allOk_nil, Nat.zero_le _, HX.out, World.ownsRow_nil _ _ _ _, Nat.le_refl _⟩, HB.out⟩
set_option maxRecDepth 100000 in
theorem rvalid_yes (b : Nat) (w : World) (hc : w.cell? ⟨b, 0, none⟩ = some (.bool true)) : Calls Tryz.prog 100 #[.pointer (some ⟨b, 0, none⟩)] w fun e w' => e = .returned (.bool true) ∧ w = w' := by
  go_enter Tryz.func100, Tryz.ntmps100
  go_wp2
  go_ret
  exact ⟨rfl, rfl⟩
set_option maxHeartbeats 1000000 in
set_option maxRecDepth 100000 in
theorem rall_ok (b lo : Nat) (v : Value) (l : List Att) (w : World) (h : RefW w b v lo l) : Calls Tryz.prog 41 #[.pointer (some ⟨b, 0, none⟩)] w (NewA l w) := by
  obtain ⟨j0, hj, hy0, hy1, hy2⟩ := info_parts info_att
  obtain ⟨p, c, rfl, k0, k1, _, hr⟩ := h.cells
  have hlen := h.len
  have HR := Lib.hid (hr.below (bel_new w (.cells #[] 70)))
  have HO := Lib.hid (ownA_empty w)
  have HB := Lib.hid (bel_new w (.cells #[] 70))
  have k2 := cell_stays HB.out k1
  have HK := Lib.hid k0
  cases p with
  | none =>
    have hc := hr.cap.2.2.2 rfl
    have hl0 : l.length = 0 := by have := hr.cap.2.1; omega
    have : l = [] := List.eq_nil_of_length_eq_zero hl0
    subst this
    subst hc
    clear h hr
    go_enter Tryz.func41, Tryz.ntmps41
    go_wp2_with (go_at_call 100; refine (rvalid_yes _ _ HK.out).mono ?_; rintro e w' ⟨rfl, rfl⟩)
    go_ret
    exact ⟨_, rfl, HO.out, HB.out⟩
  | some ad =>
    clear h hr
    go_enter Tryz.func41, Tryz.ntmps41
    go_wp2_with fail
    refine (rvalid_yes _ _ HK.out).mono ?_
    rintro e w' ⟨rfl, rfl⟩
    go_wp2_with (at_builtin; refine wpList_append_own _ rfl _ _ 58 rfl w.heap.size 70 j0 _ 6 48 Tryz.underlying58 hj hy0 hy1 hy2 rfl (by decide) _ 0 [] rfl HO.out ad l.length c (cls l) rfl (cls_length l) HR.out.news (cls_one l) ?c1 ?c2 ?c3 ?_)
    case c1 => unfold maxLen; omega
    case c2 => omega
    case c3 => simp
    intro v' w1 hown hgrow _
    have HV : Hid (NewA l w (.returned v') w1) := ⟨v', rfl, by simpa using hown, HB.out.grown hgrow (by simp) (fun k hk => ownA_lt HO.out k hk)⟩
    clear hown hgrow
    go_wp2
    go_ret
    exact HV.out
set_option maxRecDepth 100000 in
theorem rlen_ok (b lo : Nat) (v : Value) (l : List Att) (w : World) (h : RefW w b v lo l) : Calls Tryz.prog 72 #[.pointer (some ⟨b, 0, none⟩)] w fun e w' => e = .returned (.int .i64 l.length) ∧ Below w.heap.size w w' := by
  have H := Lib.hid h
  clear h
  go_enter Tryz.func72, Tryz.ntmps72
  go_wp2_with fail
  refine (rall_ok b lo v l w H.out).mono ?_
  rintro e w1 ⟨v1, rfl, ho, hb⟩
  obtain ⟨p, c, rfl⟩ := rd_slice (RdA.of_own ho)
  have HB := Lib.hid hb
  clear ho hb
  go_wp2
  go_ret
  exact ⟨rfl, HB.out⟩
/-! ### Of -/
end Go.Proofs.YtpinmiplefidpaaGreatDoor.LG

namespace Go.Proofs.YtpinmiplefidpaaGreatDoor.LG
open Go.RowKit Go.ChangeShapes

theorem find_mid (A : List Att) (x : Att) (B : List Att) (h : ∀ y ∈ A, y.n = 2) (hx : x.n ≠ 2) : (A ++ x :: B).find? (fun a => decide (a.n ≠ 2)) = some x := by
  rw [List.find?_append, List.find?_eq_none.2 (fun y hy => by simp [h y hy])]
  simp [hx]
theorem end_hit {M : List Att} {j : Nat} (hj : j < M.length) (h : ∀ x ∈ M.take j, x.n = 2) (hx : M[j].n ≠ 2) : endOf M = M[j].n ∧ isEnd M = true := by
  have e := find_mid (M.take j) M[j] (M.drop (j + 1)) h hx
  rw [← List.drop_eq_getElem_cons hj, List.take_append_drop] at e
  unfold endOf isEnd
  rw [e]; exact ⟨rfl, rfl⟩
theorem end_none {M : List Att} (h : ∀ x ∈ M, x.n = 2) : endOf M = 0 ∧ isEnd M = false := by
  have e : M.find? (fun a => decide (a.n ≠ 2)) = none := List.find?_eq_none.2 (fun x hx => by simp [h x hx])
  unfold endOf isEnd
  rw [e]; exact ⟨rfl, rfl⟩
end Go.Proofs.YtpinmiplefidpaaGreatDoor.LG

namespace Go.Proofs.YtpinmiplefidpaaGreatDoor.LG
open Go.RowKit Go.ChangeShapes

theorem last_at {L : List Att} {j : Nat} (hj : L.length = j + 1) : L.getLast? = some (L[j]'(by omega)) := by
  rw [List.getLast?_eq_getElem?, show L.length - 1 = j by omega, List.getElem?_eq_getElem (by omega)]
theorem addE_late {L : List Att} {j : Nat} (hj : L.length = j + 1) (hL : L.length < 10000) {a : Att} (ha : a.Ok) (h : (L[j]'(by omega)).t ≤ a.t) : addE L a = 0 := by
  refine addE_ok ha ?_ hL
  rintro ⟨z, hz, hlt⟩
  rw [last_at hj] at hz
  obtain rfl := Option.some.inj hz
  omega
theorem addE_early {L : List Att} {j : Nat} (hj : L.length = j + 1) {a : Att} (ha : a.Ok) (h : a.t < (L[j]'(by omega)).t) : addE L a = 8 :=
  addE_state ha ⟨_, last_at hj, h⟩
theorem addE_none {a : Att} (ha : a.Ok) : addE [] a = 0 := addE_ok ha (by rintro ⟨z, hz, _⟩; cases hz) (by decide)
theorem routI_ok (k i g : Int) (h : 1 ≤ k ∧ k ≤ 3 ∧ 0 ≤ i ∧ i < 64 ∧ 1 ≤ g ∧ g ≤ 4294967295) (w : World) :
    Calls Tryz.prog 71 #[.agg #[.int .i64 k, .int .i64 i, .int .u32 g]] w fun e w' => e = .returned (.int .i64 0) ∧ Below w.heap.size w w' := by
  obtain ⟨a, rfl⟩ : ∃ a : Nat, k = a := ⟨k.toNat, by omega⟩
  obtain ⟨b, rfl⟩ : ∃ a : Nat, i = a := ⟨i.toNat, by omega⟩
  obtain ⟨c, rfl⟩ : ∃ a : Nat, g = a := ⟨g.toNat, by omega⟩
  exact rochk_ok a b c ⟨by omega, by omega, by omega, by omega, by omega⟩ w
theorem routI_bad (k i g : Int) (hr : RgO k i g) (h : ¬ (1 ≤ k ∧ k ≤ 3 ∧ 0 ≤ i ∧ i < 64 ∧ 1 ≤ g ∧ g ≤ 4294967295)) (w : World) :
    Calls Tryz.prog 71 #[.agg #[.int .i64 k, .int .i64 i, .int .u32 g]] w fun e w' => e = .returned (.int .i64 2) ∧ Below w.heap.size w w' := by
  obtain ⟨h1, h2, h3, h4, h5, h6⟩ := hr
  exact rochk_bad k i g ⟨h1, h2, h3, h4, h5, h6⟩ (by unfold Bad; omega) w
set_option maxRecDepth 100000 in
set_option maxHeartbeats 2000000 in
theorem rchk_att (a : Att) (hr : a.Rg) (w : World) : Calls Tryz.prog 113 #[a.val] w (ChkV a w) := by
  obtain ⟨E, hE⟩ : ∃ E, chkE a = E := ⟨_, rfl⟩
  unfold ChkV
  rw [hE]
  have HO := Lib.hid hr.o
  have HY : Hid (¬ a.Ok → E = 2) := fun h => by rw [← hE]; exact chkE_bad h
  have HZ : Hid (a.Ok → E = 0) := fun h => by rw [← hE]; exact chkE_ok h
  have HB0 := Lib.hid (bel_new w (.cells #[.int .i64 a.t, .int .i64 a.k, .int .i64 a.i, .int .u32 a.g, .int .i64 a.y, .int .i64 a.n] 70))
  have hbox : Bk (w.alloc (.cells #[.int .i64 a.t, .int .i64 a.k, .int .i64 a.i, .int .u32 a.g, .int .i64 a.y, .int .i64 a.n] 70)) w.heap.size 70 a.cl.toArray := Bk.new w _ _
  have HBX := Lib.hid hbox
  clear hr hE hbox
  by_cases h0 : a.t < 0
  · have H := HY.out fun h => absurd h.t0 (by omega)
    clear HY HZ
    obtain ⟨t, k, i, g, y, n⟩ := a
    simp only [Att.val] at *
    go_enter Tryz.func113, Tryz.ntmps113
    go_wp2
    go_ret
    exact ⟨(by first | rfl | (rw [H]; rfl)), HB0.out⟩
  by_cases h1 : 1099511627776 < a.t
  · have H := HY.out fun h => absurd h.t1 (by omega)
    clear HY HZ
    obtain ⟨t, k, i, g, y, n⟩ := a
    simp only [Att.val] at *
    go_enter Tryz.func113, Tryz.ntmps113
    go_wp2
    go_ret
    exact ⟨(by first | rfl | (rw [H]; rfl)), HB0.out⟩
  by_cases h2 : 1 ≤ a.k ∧ a.k ≤ 3 ∧ 0 ≤ a.i ∧ a.i < 64 ∧ 1 ≤ a.g ∧ a.g ≤ 4294967295
  · have HOK := Lib.hid h2
    have HR : Hid (1 ≤ a.y → a.y ≤ 3 → 1 ≤ a.n → a.n ≤ 3 → E = 0) := fun k1 k2 k3 k4 => HZ.out ⟨by omega, by omega, h2.1, h2.2.1, h2.2.2.1, h2.2.2.2.1, h2.2.2.2.2.1, h2.2.2.2.2.2, k1, k2, k3, k4⟩
    have HY1 : Hid (¬ (1 ≤ a.y ∧ a.y ≤ 3 ∧ 1 ≤ a.n ∧ a.n ≤ 3) → E = 2) := fun h => HY.out fun k => h ⟨k.y0, k.y1, k.n0, k.n1⟩
    clear h2 HY HZ
    go_enter Tryz.func113, Tryz.ntmps113
    unfold Att.val
    go_wp2_with fail
    refine (routI_ok _ _ _ HOK.out _).mono ?_
    rintro e w1 ⟨rfl, hb1⟩
    have HB1 := Lib.hid (bel2 HB0.out hb1)
    obtain ⟨d0, d1, d2, d3, d4, d5⟩ := six_new (HBX.out.below hb1)
    simp only [Nat.zero_add] at d0 d1 d2 d3 d4 d5
    clear hb1
    by_cases k1 : a.y < 1
    · have H := HY1.out (by omega)
      go_wp2
      go_ret
      exact ⟨(by first | rfl | (rw [H]; rfl)), HB1.out⟩
    by_cases k2 : 3 < a.y
    · have H := HY1.out (by omega)
      go_wp2
      go_ret
      exact ⟨(by first | rfl | (rw [H]; rfl)), HB1.out⟩
    by_cases k3 : a.n < 1
    · have H := HY1.out (by omega)
      go_wp2
      go_ret
      exact ⟨(by first | rfl | (rw [H]; rfl)), HB1.out⟩
    by_cases k4 : 3 < a.n
    · have H := HY1.out (by omega)
      go_wp2
      go_ret
      exact ⟨(by first | rfl | (rw [H]; rfl)), HB1.out⟩
    have H := HR.out (by omega) (by omega) (by omega) (by omega)
    go_wp2
    go_ret
    exact ⟨(by first | rfl | (rw [H]; rfl)), HB1.out⟩
  · have HNO := Lib.hid h2
    have H := HY.out fun k => h2 ⟨k.k0, k.k1, k.i0, k.i1, k.g0, k.g1⟩
    clear h2 HY HZ
    go_enter Tryz.func113, Tryz.ntmps113
    unfold Att.val
    go_wp2_with fail
    refine (routI_bad _ _ _ HO.out HNO.out _).mono ?_
    rintro e w1 ⟨rfl, hb1⟩
    go_wp2
    go_ret
    exact ⟨(by first | rfl | (rw [H]; rfl)), bel2 HB0.out hb1⟩
theorem step_append_w {w : World} {ops : Array Oper} {o : Oper} {a : Act} {K : Act → World → Prop} {Q : Exit → Act → World → Prop} {E : Prop} (hw : Region.wanted o (yielded ops a.tmps) = true) (dst : Option Nat) (hd : o.dst = dst) (s x : Operand) (t tn : TypeId)
    (ho : o.op = .call { callee := .builtin .append, args := #[s, x], argTypes := #[t, tn] }) (vs vx : Value) (hs : a.eval s = vs) (hx : a.eval x = vx)
    (v' : Value) (w' : World) (hr : (Builtin.append_ #[t, tn] o.type #[vs, vx]).run Tryz.prog w = .ok v' w') (h : K (a.put dst v') w') :
    if Region.wanted o (yielded ops a.tmps) = true then Oper.wp Tryz.prog o a w K Q else E := by
  rw [if_pos hw]
  exact Lib.wp_append_run w s x t tn ho vs vx hs hx v' w' hr (by rw [hd]; exact h)
/-- One attempt more behind an own row. -/
def AppV (p : Option Addr) (base : Nat) (l : List Att) (B : Att) (W : World) (v' : Value) (W' : World) : Prop :=
  W'.ownsRow base 70 6 v' (l ++ [B]).length (cls (l ++ [B])) ∧ Kept (fun k => p = some ⟨k, 0, none⟩) W W'
theorem app_one {W : World} {base x n : Nat} {p : Option Addr} {c : Nat} {l : List Att} {B : Att} (hn : l.length = n) (ho : W.ownsRow base 70 6 (.slice p n c) l.length (cls l)) (hx : Bk W x 70 B.cl.toArray) (hl : l.length ≤ 20000) (hb : base ≤ W.heap.size) :
    ∃ p' c' W', (Builtin.append_ #[58, 58] 58 #[.slice p n c, .slice (some ⟨x, 0, none⟩) 1 1]).run Tryz.prog W = .ok (.slice p' (n + 1) c') W' ∧ AppV p base l B W (.slice p' (n + 1) c') W' := by
  subst hn
  obtain ⟨j0, hj, hy0, hy1, hy2⟩ := info_parts info_att
  obtain ⟨v', W', hr, hown, hgr, _⟩ := run_append_own (P := Tryz.prog) (w := W) base 58 58 70 j0 _ 6 48 Tryz.underlying58 hj hy0 hy1 hy2 rfl (by decide) (.slice p l.length c) l.length (cls l) ho
    ⟨x, 0, none⟩ 1 1 B.cl rfl (fun j u hj => by
      have e : (⟨x, 0, none⟩ : Addr).add j = ⟨x, j, none⟩ := by unfold Addr.add; split <;> simp_all
      rw [e, hx.cell]
      simpa using hj) (cl_one B) (by unfold maxLen; omega) (by omega) hb
  have ho2 : W'.ownsRow base 70 6 v' (l ++ [B]).length (cls (l ++ [B])) := by
    rw [cls_snoc, List.length_append]; exact hown
  obtain ⟨p', c', rfl⟩ := rd_slice (RdA.of_own ho2)
  have e1 : (l ++ [B]).length = l.length + 1 := by simp
  refine ⟨p', c', W', by rw [← e1]; exact hr, by rw [← e1]; exact ho2, (Kept.of_grown hgr).mono fun k _ e => ?_⟩
  obtain ⟨c2, h2⟩ := own_form ho e.symm
  injection h2

/-- What the document's Add gives. -/
def RAddV (b lo : Nat) (v : Value) (l : List Att) (a : Att) (w : World) (e : Ending) (w' : World) : Prop :=
  e = .returned (.int .i64 (addE l a)) ∧ ∃ v', RefW w' b v' lo (addL l a) ∧ Kept (fun g => g = b ∨ v.ownBlock = some g) w w' ∧ ∀ g, v'.ownBlock = some g → v.ownBlock = some g ∨ w.heap.size ≤ g
theorem raddV_same {b lo : Nat} {v : Value} {l : List Att} {a : Att} {w w' : World} {E : Int} (h : RefW w b v lo l) (hE : addE l a = E) (h0 : E ≠ 0) (hb : Below w.heap.size w w') : RAddV b lo v l a w (.returned (.int .i64 E)) w' :=
  ⟨by rw [hE], v, by rw [addL_no (by rw [hE]; exact h0)]; exact h.below hb, (Kept.of_below (S := fun _ => False) hb).mono fun _ _ e => e.elim, fun _ hg => .inl hg⟩
theorem raddV_put {b lo : Nat} {p : Option Addr} {n c : Nat} {l : List Att} {a : Att} {w W D : World} {p8 : Option Addr} {n8 c8 : Nat} (h : RefW w b (.slice p n c) lo l) (ha : a.Ok) (hE : addE l a = 0) (hl : l.length < 10000) (hb : Below w.heap.size w W) (ho : D.ownsRow lo 70 6 (.slice p8 n8 c8) (l ++ [a]).length (cls (l ++ [a]))) (hk : Kept (fun k => p = some ⟨k, 0, none⟩) W D) (hnew : ∀ g, (Value.slice p8 n8 c8).ownBlock = some g → (Value.slice p n c).ownBlock = some g ∨ w.heap.size ≤ g) :
    RAddV b lo (.slice p n c) l a w (.returned (.int .i64 0)) (D.setCell ⟨b, 1, none⟩ (.slice p8 n8 c8)) := by
  have hbD : Bk D b 140 #[.bool true, .slice p n c] := (h.hb.below hb).kept hk (fun e => absurd (own_type h.row (by rw [e]; rfl) h.hb) (by decide))
  refine ⟨by rw [hE], .slice p8 n8 c8, ?_, ?_, hnew⟩
  · rw [addL_ok hE]
    refine ⟨allOk_append.2 ⟨h.ok, fun y hy => by obtain rfl := List.mem_singleton.1 hy; exact ha⟩, by rw [List.length_append]; show l.length + 1 ≤ 10000; omega, hbD.put 1 _, own_same ho fun g hg => ?_, h.lb⟩
    exact Below.heap_setCell _ _ _ _ (fun e => by
      have e' : g = b := e.symm ▸ rfl
      subst e'
      exact absurd (own_type ho hg hbD) (by decide))
  · have k1 : Kept (fun g => g = b ∨ (Value.slice p n c).ownBlock = some g) w W := (Kept.of_below (S := fun _ => False) hb).mono fun _ _ e => e.elim
    have k2 : Kept (fun g => g = b ∨ (Value.slice p n c).ownBlock = some g) W D := hk.mono fun g _ e => .inr (by rw [e]; rfl)
    exact (k1.trans k2).put (p := ⟨b, 1, none⟩) (.inr (.inl rfl)) _
set_option maxRecDepth 100000 in
set_option maxHeartbeats 4000000 in
theorem radd_ok (b lo : Nat) (v : Value) (l : List Att) (a : Att) (w : World) (h : RefW w b v lo l) (hr : a.Rg) (hlo : lo ≤ w.heap.size) : Calls Tryz.prog 73 #[.pointer (some ⟨b, 0, none⟩), a.val] w (RAddV b lo v l a w) := by
  have H := Lib.hid h
  have HR := Lib.hid hr
  have HB0 := Lib.hid (bel_new w (.cells #[.int .i64 a.t, .int .i64 a.k, .int .i64 a.i, .int .u32 a.g, .int .i64 a.y, .int .i64 a.n] 70))
  have hbox : Bk (w.alloc (.cells #[.int .i64 a.t, .int .i64 a.k, .int .i64 a.i, .int .u32 a.g, .int .i64 a.y, .int .i64 a.n] 70)) w.heap.size 70 a.cl.toArray := Bk.new w _ _
  have HBX := Lib.hid hbox
  have HC0 := Lib.hid ((h.below HB0.out).hb.cell 0)
  obtain ⟨c0, c1, c2, c3, c4, c5⟩ := six_new hbox
  simp only [Nat.zero_add] at c0 c1 c2 c3 c4 c5
  have hvl : a.val = .agg #[.int .i64 a.t, .int .i64 a.k, .int .i64 a.i, .int .u32 a.g, .int .i64 a.y, .int .i64 a.n] := rfl
  rw [hvl]
  clear h hr hbox hvl
  go_enter Tryz.func73, Tryz.ntmps73
  go_wp2_with fail
  refine (rvalid_yes _ _ HC0.out).mono ?_
  rintro e w' ⟨rfl, rfl⟩
  go_wp2_with fail
  refine (rchk_att a HR.out _).mono ?_
  rintro e w1 ⟨hee, hb1⟩
  have HB1 := Lib.hid (bel2 HB0.out hb1)
  rcases a.ok_or with hok | hno
  · rw [chkE_ok hok] at hee
    subst hee
    have HOK := Lib.hid hok
    have HL1 := Lib.hid (H.out.below HB1.out)
    obtain ⟨p, c, rfl, _, k1, k2, hrd⟩ := HL1.out.cells
    have hlen := H.out.len
    obtain ⟨d0, d1, d2, d3, d4, d5⟩ := six_new (HBX.out.below hb1)
    simp only [Nat.zero_add] at d0 d1 d2 d3 d4 d5
    obtain ⟨_, hcap, hcm, _⟩ := hrd.cap
    have HRD := Lib.hid hrd
    obtain ⟨N, hN⟩ : ∃ N, l.length = N := ⟨_, rfl⟩
    have HN := Lib.hid hN
    have HAPP : Hid (∀ W, Below w1.heap.size w1 W → l.length < 10000 → ∃ p8 c8 D, (Builtin.append_ #[58, 58] 58 #[.slice p N c, .slice (some ⟨W.heap.size, 0, none⟩) 1 1]).run Tryz.prog (W.alloc (.cells #[.int .i64 a.t, .int .i64 a.k, .int .i64 a.i, .int .u32 a.g, .int .i64 a.y, .int .i64 a.n] 70)).drew = .ok (.slice p8 (N + 1) c8) D ∧ D.cell? ⟨b, 1, none⟩ = some (.slice p N c) ∧ D.frozen? ⟨b, 1, none⟩ = false ∧ (addE l a = 0 → RAddV b lo (.slice p l.length c) l a w (.returned (.int .i64 0)) (D.setCell ⟨b, 1, none⟩ (.slice p8 (N + 1) c8)))) := fun W hW hl => by
      have hbW : Below w1.heap.size w1 (W.alloc (.cells #[.int .i64 a.t, .int .i64 a.k, .int .i64 a.i, .int .u32 a.g, .int .i64 a.y, .int .i64 a.n] 70)).drew := bel_drew (bel2 hW (bel_new _ _))
      have hrow := own_below HL1.out.row hbW
      rw [hN] at hrow
      have hx : Bk (W.alloc (.cells #[.int .i64 a.t, .int .i64 a.k, .int .i64 a.i, .int .u32 a.g, .int .i64 a.y, .int .i64 a.n] 70)).drew W.heap.size 70 a.cl.toArray := Bk.new W _ _
      have hrow2 : (W.alloc (.cells #[.int .i64 a.t, .int .i64 a.k, .int .i64 a.i, .int .u32 a.g, .int .i64 a.y, .int .i64 a.n] 70)).drew.ownsRow lo 70 6 (.slice p N c) l.length (cls l) := by rw [hN]; exact hrow
      obtain ⟨j0, hj, hy0, hy1, hy2⟩ := info_parts info_att
      obtain ⟨v', D, hrun, hown, hgr, _, hloc⟩ := run_append_own_at (P := Tryz.prog) (w := (W.alloc (.cells #[.int .i64 a.t, .int .i64 a.k, .int .i64 a.i, .int .u32 a.g, .int .i64 a.y, .int .i64 a.n] 70)).drew) lo 58 58 70 j0 _ 6 48 Tryz.underlying58 hj hy0 hy1 hy2 rfl (by decide) (.slice p N c) N (cls l) hrow
        ⟨W.heap.size, 0, none⟩ 1 1 a.cl rfl (fun j u hj => by
          have e : (⟨W.heap.size, 0, none⟩ : Addr).add j = ⟨W.heap.size, j, none⟩ := by unfold Addr.add; split <;> simp_all
          rw [e, hx.cell]
          simpa using hj) (cl_one a) (by unfold maxLen; omega) (by omega) (Nat.le_trans hlo (Nat.le_trans HB1.out.size hbW.size))
      have ho2 : D.ownsRow lo 70 6 v' (l ++ [a]).length (cls (l ++ [a])) := by
        rw [cls_snoc, List.length_append, hN]; exact hown
      obtain ⟨p8, c8, rfl⟩ := rd_slice (RdA.of_own ho2)
      have e1 : (l ++ [a]).length = N + 1 := by rw [List.length_append, hN]; rfl
      rw [e1] at hrun ho2 hloc
      have hkD : Kept (fun k => p = some ⟨k, 0, none⟩) (W.alloc (.cells #[.int .i64 a.t, .int .i64 a.k, .int .i64 a.i, .int .u32 a.g, .int .i64 a.y, .int .i64 a.n] 70)).drew D := (Kept.of_grown hgr).mono fun k _ e => by
        obtain ⟨c2, h2⟩ := own_form hrow e.symm
        injection h2
      have hbD : Bk D b 140 #[.bool true, .slice p l.length c] := (HL1.out.hb.below hbW).kept hkD (fun e => absurd (own_type H.out.row (by rw [e]; rfl) H.out.hb) (by decide))
      refine ⟨p8, c8, D, hrun, by have := hbD.cell 1; rw [hN] at this; exact this, hbD.frozen 1, fun hE => ?_⟩
      refine raddV_put H.out HOK.out hE hl (bel2 HB1.out hbW) (by rw [e1]; exact ho2) hkD (fun g hg => ?_)
      rcases hloc with h | h
      · rw [hN]; exact .inl (h ▸ hg)
      · rw [h] at hg
        have hg2 : W.heap.size + 1 = g := by
          have := Option.some.inj hg
          rw [← this]
          show W.heap.size + 1 = (W.alloc _).heap.size
          rw [size_up]
        have := hW.size
        have := HB1.out.size
        exact .inr (by omega)
    rw [hN] at k1 hcap hlen
    clear hok hb1 c0 c1 c2 c3 c4 c5 hN hrd
    rcases Nat.eq_zero_or_pos N with hl0 | hl0
    · subst hl0
      have HEE : Hid (addE l a = 0) := by
        have : l = [] := List.eq_nil_of_length_eq_zero HN.out
        rw [Hid, this]; exact addE_none HOK.out
      go_wp2
      go_quiet (fail)
      have HW : Hid (Below w1.heap.size w1 (w1.drewN nq)) := bel_drewN (Below.refl _ _) _
      generalize w1.drewN nq = W2 at *
      have y1 := cell_stays HW.out k1
      have y1b := cell_stays (bel_new W2 (.cells #[.int .i64 a.t, .int .i64 a.k, .int .i64 a.i, .int .u32 a.g, .int .i64 a.y, .int .i64 a.n] 70)) y1
      have e0 := cell_stays HW.out d0
      have e1 := cell_stays HW.out d1
      have e2 := cell_stays HW.out d2
      have e3 := cell_stays HW.out d3
      have e4 := cell_stays HW.out d4
      have e5 := cell_stays HW.out d5
      obtain ⟨p8, c8, D, hr8, hD1, hDf, hfin⟩ := HAPP.out W2 HW.out (by have := HN.out; omega)
      have HFIN := Lib.hid (hfin HEE.out)
      clear k1 k2 d0 d1 d2 d3 d4 d5 hfin
      go_wp2
      go_region_law (refine step_append_w (by first | rfl | kernel_rfl) (some 48) (by rfl) _ _ _ _ (by rfl) _ _ (by rfl) (by rfl) _ _ hr8 ?_)
      all_goals
        go_wp2
        go_ret
        exact HFIN.out
    · obtain ⟨j, rfl⟩ : ∃ j, N = j + 1 := ⟨N - 1, by omega⟩
      obtain ⟨g, off, rfl, hg, q0, q1⟩ := HRD.out.cell (j := j) (by have := HN.out; omega)
      clear q1 hg
      have HX : Hid (¬ a.t < (l[j]'(by have := HN.out; omega)).t → j + 1 < 10000 → addE l a = 0) := fun h h2 => addE_late HN.out (by rw [HN.out]; exact h2) HOK.out (by omega)
      have HY : Hid (a.t < (l[j]'(by have := HN.out; omega)).t → addE l a = 8) := fun h => addE_early HN.out HOK.out h
      have HZ : Hid (¬ a.t < (l[j]'(by have := HN.out; omega)).t → j + 1 = 10000 → addE l a = 4) := fun h h2 => addE_full HOK.out (by
        rintro ⟨z, hz, hlt⟩
        rw [last_at HN.out] at hz
        obtain rfl := Option.some.inj hz
        exact h hlt) (by rw [HN.out]; omega)
      generalize (l[j]'(by have := HN.out; omega)).t = z at *
      have hj1 : j + 1 ≤ 10000 := hlen
      clear hl0
      by_cases hlt : a.t < z
      · have HE8 := Lib.hid (HY.out hlt)
        go_wp2
        go_quiet (fail)
        go_wp2
        go_ret
        exact raddV_same H.out HE8.out (by decide) (bel2 HB1.out (bel_drewN (Below.refl _ _) _))
      · by_cases hful : j + 1 = 10000
        · have HE4 := Lib.hid (HZ.out hlt hful)
          have hI : ((10000 : Int) ≤ (j : Int) + 1) = True := eq_true (by omega)
          have hjj : j ≤ 9999 := by omega
          clear hful hlen
          go_wp2
          go_quiet (fail)
          go_wp2
          go_ret
          exact raddV_same H.out HE4.out (by decide) (bel2 HB1.out (bel_drewN (Below.refl _ _) _))
        · have HEE := Lib.hid (HX.out hlt (by omega))
          have hI : ((10000 : Int) ≤ (j : Int) + 1) = False := eq_false (by omega)
          have hjj : j < 9999 := by omega
          clear hful hlen
          go_wp2
          go_quiet (fail)
          have HW : Hid (Below w1.heap.size w1 (w1.drewN nq)) := bel_drewN (Below.refl _ _) _
          generalize w1.drewN nq = W2 at *
          have y1 := cell_stays HW.out k1
          have y1b := cell_stays (bel_new W2 (.cells #[.int .i64 a.t, .int .i64 a.k, .int .i64 a.i, .int .u32 a.g, .int .i64 a.y, .int .i64 a.n] 70)) y1
          have e0 := cell_stays HW.out d0
          have e1 := cell_stays HW.out d1
          have e2 := cell_stays HW.out d2
          have e3 := cell_stays HW.out d3
          have e4 := cell_stays HW.out d4
          have e5 := cell_stays HW.out d5
          obtain ⟨p8, c8, D, hr8, hD1, hDf, hfin⟩ := HAPP.out W2 HW.out (by have := HN.out; omega)
          have HFIN := Lib.hid (hfin HEE.out)
          clear k1 k2 d0 d1 d2 d3 d4 d5 hfin
          go_wp2
          go_region_law (refine step_append_w (by first | rfl | kernel_rfl) (some 48) (by rfl) _ _ _ _ (by rfl) _ _ (by rfl) (by rfl) _ _ hr8 ?_)
          all_goals
            go_wp2
            go_ret
            exact HFIN.out
  · rw [chkE_bad hno] at hee
    subst hee
    have hE : addE l a = 2 := addE_arg hno
    clear hno
    go_wp2
    go_ret
    exact raddV_same H.out hE (by decide) HB1.out
end Go.Proofs.YtpinmiplefidpaaGreatDoor.LG

namespace Go.Proofs.YtpinmiplefidpaaGreatDoor.LG
open Go.RowKit Go.ChangeShapes

/-- The attempts that ledgers have behind these calls of Add. -/
noncomputable def plays (l : List Att) : List Att := l.foldl addL []
theorem plays_take (l : List Att) (j : Nat) (h : j < l.length) : plays (l.take (j + 1)) = addL (plays (l.take j)) l[j] := by
  unfold plays
  rw [List.take_succ_eq_append_getElem h, List.foldl_append]
  rfl
/-- The program's ledger, which has L, beside the document's, which has M. -/
structure PlW (w W : World) (b bk lo rb : Nat) (rv : Value) (rlo : Nat) (L M : List Att) : Prop where
  led : LedW W b bk lo L
  ref : RefW W rb rv rlo M
  dis : ∀ g, rv.ownBlock = some g → ¬ Foot W bk g
  nrb : ¬ Foot W bk rb
  lob : w.heap.size ≤ lo
  rlob : w.heap.size ≤ rlo
  bel : Below w.heap.size w W
section
variable {w W W' : World} {b bk lo rb rlo : Nat} {rv : Value} {L M : List Att}
theorem PlW.below (h : PlW w W b bk lo rb rv rlo L M) (hb : Below W.heap.size W W') : PlW w W' b bk lo rb rv rlo L M :=
  ⟨(h.led.below hb).1, h.ref.below hb, fun g hg hf => h.dis g hg (((h.led.below hb).2 g).1 hf), fun hf => h.nrb (((h.led.below hb).2 _).1 hf), h.lob, h.rlob, bel2 h.bel hb⟩
theorem PlW.lt_ref (h : PlW w W b bk lo rb rv rlo L M) : rb < W.heap.size ∧ ∀ g, rv.ownBlock = some g → rlo ≤ g ∧ g < W.heap.size := ⟨h.ref.hb.lt, fun g hg => h.ref.row.lt g hg⟩
theorem PlW.addA {L' : List Att} (h : PlW w W b bk lo rb rv rlo L M) (hl : LedW W' b bk lo L') (hk : Kept (Foot W bk) W W') (hf : ∀ g, Foot W' bk g → Foot W bk g ∨ W.heap.size ≤ g) : PlW w W' b bk lo rb rv rlo L' M :=
  ⟨hl, h.ref.kept hk h.nrb h.dis, fun g hg hfo => by
    rcases hf g hfo with e | e
    · exact h.dis g hg e
    · have := (h.lt_ref.2 g hg).2; omega, fun hfo => by
    rcases hf _ hfo with e | e
    · exact h.nrb e
    · have := h.lt_ref.1; omega, h.lob, h.rlob, h.bel.trans (hk.below h.bel.size (fun g hg => Nat.le_trans h.lob (h.led.foot_le hg).1))⟩
theorem PlW.addB {M' : List Att} {rv' : Value} (h : PlW w W b bk lo rb rv rlo L M) (hl : RefW W' rb rv' rlo M') (hk : Kept (fun g => g = rb ∨ rv.ownBlock = some g) W W') (hf : ∀ g, rv'.ownBlock = some g → rv.ownBlock = some g ∨ W.heap.size ≤ g) : PlW w W' b bk lo rb rv' rlo L M' := by
  obtain ⟨h1, h2⟩ := h.led.kept hk (fun e => by
    rcases e with e | e
    · subst e; exact absurd (h.led.hb.uniq h.ref.hb).1 (by decide)
    · exact absurd (own_type h.ref.row e h.led.hb) (by decide)) (fun g hg e => by
    rcases e with e | e
    · subst e; exact h.nrb hg
    · exact h.dis g e hg)
  refine ⟨h1, hl, fun g hg hfo => ?_, fun hfo => h.nrb ((h2 _).1 hfo), h.lob, h.rlob, h.bel.trans (hk.below h.bel.size (fun g e => ?_))⟩
  · rcases hf g hg with e | e
    · exact h.dis g e ((h2 g).1 hfo)
    · have := (h.led.foot_le ((h2 g).1 hfo)).2; omega
  · rcases e with e | e
    · subst e; exact Nat.le_trans h.rlob h.ref.lb
    · exact Nat.le_trans h.rlob (h.lt_ref.2 g e).1
/-- The copy goes on, the old one apart from it. -/
theorem PlW.copy {W5 W6 : World} {b' bk' : Nat} (h : PlW w W b bk lo rb rv rlo L M) (hc : LedW W5 b' bk' W.heap.size L) (hb' : W.heap.size ≤ b') (hb5 : Below W.heap.size W W5) (hk : Kept (Foot W5 bk) W5 W6) : PlW w W6 b' bk' W.heap.size rb rv rlo L M := by
  have h5 := h.below hb5
  have hft : ∀ g, Foot W5 bk g → g < W.heap.size := fun g hg => (h.led.foot_le (((h.led.below hb5).2 g).1 hg)).2
  obtain ⟨h1, h2⟩ := hc.kept hk (fun e => by have := hft _ e; omega) (fun g hg e => by have h3 := hft _ e; have h4 := (hc.foot_le hg).1; omega)
  refine ⟨h1, h5.ref.kept hk h5.nrb h5.dis, fun g hg hfo => ?_, fun hfo => ?_, h.bel.size, h.rlob, h5.bel.trans (hk.below h5.bel.size (fun g hg => Nat.le_trans h.lob (h5.led.foot_le hg).1))⟩
  · have h3 := (h.lt_ref.2 g hg).2
    have h4 := (hc.foot_le ((h2 g).1 hfo)).1
    omega
  · have h3 := h.lt_ref.1
    have h4 := (hc.foot_le ((h2 _).1 hfo)).1
    omega
end
end Go.Proofs.YtpinmiplefidpaaGreatDoor.LG
