/- Small words for the laws on ledgers by numbers: an entry alone; own rows behind calls; one attempt more behind an own row. -/
import Derived.Test.YtenggngcigkakaaGreatDoorHy
import Derived.Test.YtenggngcigkakaaGreatDoorHz
import Derived.Test.YtenggngcigkakaaGreatDoorIh
namespace Go.Proofs.YtenggngcigkakaaGreatDoor
open Go.RowKit Go.ChangeShapes

/-- An entry in a block of its own reads as a list of one. -/
theorem rde_one (w : World) (y : Ent) (hy : y.Rg) : RdE (w.alloc (.cells #[.int .u8 y.u, .int .u8 y.r, .int .u8 y.y, .int .u8 y.n] 73)) (.slice (some ⟨w.heap.size, 0, none⟩) 1 1) [y] := by
  have hb := Bk.new w 73 #[.int .u8 y.u, .int .u8 y.r, .int .u8 y.y, .int .u8 y.n]
  refine ⟨_, 1, rfl, Nat.le_refl _, by omega, fun x hx => ?_, fun _ => ⟨w.heap.size, 0, rfl, hb.lt, fun j hj => ?_⟩⟩
  · obtain rfl := List.mem_singleton.1 hx
    exact hy
  · obtain rfl : j = 0 := by simpa using hj
    exact ⟨hb.cell 0, hb.cell 1, hb.cell 2, hb.cell 3⟩
theorem rd_slice {w : World} {v : Value} {l : List Att} (h : RdA w v l) : ∃ p c, v = .slice p l.length c := by
  obtain ⟨a, c, e, _⟩ := h
  exact ⟨a, c, e⟩
theorem RdE.below {w w' : World} {v : Value} {l : List Ent} (h : RdE w v l) (hb : Below w.heap.size w w') : RdE w' v l := by
  obtain ⟨a, c, e, h1, h2, h3, h4⟩ := h
  refine ⟨a, c, e, h1, h2, h3, fun h0 => ?_⟩
  obtain ⟨g, off, e2, hg, hc⟩ := h4 h0
  have k := fun i => hb.cell (p := ⟨g, i, none⟩) hg
  exact ⟨g, off, e2, Nat.lt_of_lt_of_le hg hb.size, fun j hj => ⟨(k _).trans (hc j hj).1, (k _).trans (hc j hj).2.1, (k _).trans (hc j hj).2.2.1, (k _).trans (hc j hj).2.2.2⟩⟩
theorem own_lt {w : World} {base n s : Nat} {v : Value} {e : TypeId} {xs : List Value} (h : w.ownsRow base e s v n xs) : ∀ g off n' c, v = .slice (some ⟨g, off, none⟩) n' c → g < w.heap.size := by
  rintro g off n' c rfl
  rcases h.2 with ⟨e, _⟩ | ⟨g', cap, cur, e, h1, h2, _⟩
  · cases e
  · injection e with e1 e2 e3
    injection e1 with e1
    injection e1 with e1
    subst e1
    exact (show Bk w g _ cur from h2).lt
theorem own_form {w : World} {base n s g : Nat} {v : Value} {e : TypeId} {xs : List Value} (h : w.ownsRow base e s v n xs) (hg : v.ownBlock = some g) : ∃ c, v = .slice (some ⟨g, 0, none⟩) n c := by
  rcases h.2 with ⟨rfl, _⟩ | ⟨g', cap, cur, rfl, _⟩
  · cases hg
  · obtain rfl : g' = g := by simpa [Value.ownBlock] using hg
    exact ⟨_, rfl⟩
/-- An own row apart from a ledger stays where the ledger's blocks turn. -/
theorem own_far {w w' : World} {base n s bk : Nat} {v : Value} {e : TypeId} {xs : List Value} {l : List Att} (h : w.ownsRow base e s v n xs) (hf : Far w bk v l) (hk : Kept (Foot w bk) w w') : w'.ownsRow base e s v n xs :=
  own_same h fun g hg => by
    obtain ⟨c, hc⟩ := own_form h hg
    exact hk.block g (h.lt g hg).2 (hf.apart g 0 _ c hc).1
/-- An own row stays where another row turns. -/
theorem own_kept {w w' : World} {base n s : Nat} {v : Value} {e : TypeId} {xs : List Value} {S : Nat → Prop} (h : w.ownsRow base e s v n xs) (hk : Kept S w w') (hs : ∀ g, v.ownBlock = some g → ¬ S g) : w'.ownsRow base e s v n xs :=
  own_same h fun g hg => hk.block g (h.lt g hg).2 (hs g hg)

theorem step_append_w {w : World} {ops : Array Oper} {o : Oper} {a : Act} {K : Act → World → Prop} {Q : Exit → Act → World → Prop} {E : Prop} (hw : Region.wanted o (yielded ops a.tmps) = true) (dst : Option Nat) (hd : o.dst = dst) (s x : Operand) (t tn : TypeId)
    (ho : o.op = .call { callee := .builtin .append, args := #[s, x], argTypes := #[t, tn] }) (vs vx : Value) (hs : a.eval s = vs) (hx : a.eval x = vx)
    (v' : Value) (w' : World) (hr : (Builtin.append_ #[t, tn] o.type #[vs, vx]).run Tryz.prog w = .ok v' w') (h : K (a.put dst v') w') :
    if Region.wanted o (yielded ops a.tmps) = true then Oper.wp Tryz.prog o a w K Q else E := by
  rw [if_pos hw]
  exact Lib.wp_append_run w s x t tn ho vs vx hs hx v' w' hr (by rw [hd]; exact h)

/-- At a call in just this world. -/
theorem at_w {f : Nat} {args : Array Value} {Q : Ending → World → Prop} (W : World) (h : Calls Tryz.prog f args W Q) : Calls Tryz.prog f args W Q := h
/-- At an operation of a region in just this world. -/
theorem at_app {ops : Array Oper} {o : Oper} {a : Act} {K : Act → World → Prop} {Q : Exit → Act → World → Prop} {E : Prop} (W : World) (h : if Region.wanted o (yielded ops a.tmps) = true then Oper.wp Tryz.prog o a W K Q else E) :
    if Region.wanted o (yielded ops a.tmps) = true then Oper.wp Tryz.prog o a W K Q else E := h
/-- One attempt more behind an own row. -/
def AppV (p : Option Addr) (base : Nat) (l : List Att) (B : Att) (W : World) (v' : Value) (W' : World) : Prop :=
  W'.ownsRow base 32 6 v' (l ++ [B]).length (cls (l ++ [B])) ∧ Kept (fun k => p = some ⟨k, 0, none⟩) W W'
theorem app_one {W : World} {base x n : Nat} {p : Option Addr} {c : Nat} {l : List Att} {B : Att} (hn : l.length = n) (ho : W.ownsRow base 32 6 (.slice p n c) l.length (cls l)) (hx : Bk W x 32 B.cl.toArray) (hl : l.length ≤ 20000) (hb : base ≤ W.heap.size) :
    ∃ p' c' W', (Builtin.append_ #[22, 22] 22 #[.slice p n c, .slice (some ⟨x, 0, none⟩) 1 1]).run Tryz.prog W = .ok (.slice p' (n + 1) c') W' ∧ AppV p base l B W (.slice p' (n + 1) c') W' := by
  subst hn
  obtain ⟨j0, hj, hy0, hy1, hy2⟩ := info_parts info_att
  obtain ⟨v', W', hr, hown, hgr, _⟩ := run_append_own (P := Tryz.prog) (w := W) base 22 22 32 j0 _ 6 48 Tryz.underlying22 hj hy0 hy1 hy2 rfl (by decide) (.slice p l.length c) l.length (cls l) ho
    ⟨x, 0, none⟩ 1 1 B.cl rfl (fun j u hj => by
      have e : (⟨x, 0, none⟩ : Addr).add j = ⟨x, j, none⟩ := by unfold Addr.add; split <;> simp_all
      rw [e, hx.cell]
      simpa using hj) (cl_one B) (by unfold maxLen; omega) (by omega) hb
  have ho2 : W'.ownsRow base 32 6 v' (l ++ [B]).length (cls (l ++ [B])) := by
    rw [cls_snoc, List.length_append]; exact hown
  obtain ⟨p', c', rfl⟩ := rd_slice (RdA.of_own ho2)
  have e1 : (l ++ [B]).length = l.length + 1 := by simp
  refine ⟨p', c', W', by rw [← e1]; exact hr, by rw [← e1]; exact ho2, (Kept.of_grown hgr).mono fun k _ e => ?_⟩
  obtain ⟨c2, h2⟩ := own_form ho e.symm
  injection h2
end Go.Proofs.YtenggngcigkakaaGreatDoor
