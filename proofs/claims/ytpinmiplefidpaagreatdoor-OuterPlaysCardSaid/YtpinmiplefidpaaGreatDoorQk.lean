/- Words for memory: where the document's world lies, which blocks are its own; each part turned alone. -/
import Derived.Test.YtpinmiplefidpaaGreatDoorOk
import Derived.Test.YtpinmiplefidpaaGreatDoorNF
import Derived.Test.YtpinmiplefidpaaGreatDoorNU
import Derived.Test.YtpinmiplefidpaaGreatDoorNZ
import Derived.Test.YtpinmiplefidpaaGreatDoorNA
import Derived.Test.YtpinmiplefidpaaGreatDoorNH
namespace Go.Proofs.YtpinmiplefidpaaGreatDoor
open Go.RowKit

/-- Where the parts of the document's world lie. -/
structure Rx where
  r : Nat
  f : Nat
  fd : Nat
  p : Nat
  pd : Nat
  q : Nat
  qc : Nat
  qd : Nat
  qg : Nat
  s : Nat
  g : Nat
  lo : Nat
  v : Value
def rcells (x : Rx) (T : Int) : Array Value := #[.bool true, ptr x.f, ptr x.p, ptr x.q, ptr x.s, ptr x.g, .int .i64 T]
/-- All blocks of the document's world. -/
def RFoot (w : World) (x : Rx) (g : Nat) : Prop :=
  g = x.r ∨ (g = x.f ∨ g = x.fd) ∨ (g = x.p ∨ g = x.pd) ∨ LS.QFt x.q x.qc x.qd x.qg g ∨ (g = x.s ∨ ASl w x.s g) ∨ (g = x.g ∨ x.v.ownBlock = some g)
structure RW (w : World) (x : Rx) (W : Wd) : Prop where
  ok : W.Ok
  hr : Bk w x.r 118 (rcells x W.T)
  hF : FD.DW w x.f x.fd W.F
  hP : BF.DW w x.p x.pd W.P
  hD : LS.QW w x.q x.qc x.qd x.qg W.D
  hS : AN.SrcW 184 w x.s W.L
  hL : LG.RefW w x.g x.v x.lo W.B
/-- What a call on the document's world turns. -/
structure RStep (x y : Rx) (w w' : World) : Prop where
  r : y.r = x.r
  k : Kept (RFoot w x) w w'
  g : ∀ g, RFoot w' y g → RFoot w x g ∨ w.heap.size ≤ g
section
variable {w w' w'' : World} {x y z : Rx} {W U : Wd} {g : Nat} {t : TypeId} {cs : Array Value}
theorem RStep.refl (x : Rx) (w : World) : RStep x x w w := ⟨rfl, Kept.refl _ _, fun _ h => .inl h⟩
theorem RStep.trans (h : RStep x y w w') (k : RStep y z w' w'') : RStep x z w w'' :=
  ⟨k.r.trans h.r, h.k.trans' k.k h.g, fun i hi => by
    rcases k.g i hi with e | e
    · exact h.g i e
    · exact .inr (Nat.le_trans h.k.size e)⟩

/-! ### what kind of block is whose -/
theorem FD.DW.cbk {c d : Nat} {F : FD.Fb} (h : FD.DW w c d F) : ∃ cs, Bk w c 169 cs := by obtain ⟨_, _, h1, _⟩ := h.at_; exact ⟨_, h1⟩
theorem FD.DW.dbk {c d : Nat} {F : FD.Fb} (h : FD.DW w c d F) : ∃ cs, Bk w d 171 cs := by obtain ⟨_, _, _, h1, _⟩ := h.at_; exact ⟨_, h1⟩
theorem BF.DW.cbk {c d : Nat} {F : BF.Po} (h : BF.DW w c d F) : ∃ cs, Bk w c 174 cs := by obtain ⟨_, _, h1, _⟩ := h.at_; exact ⟨_, h1⟩
theorem BF.DW.dbk {c d : Nat} {F : BF.Po} (h : BF.DW w c d F) : ∃ cs, Bk w d 176 cs := by obtain ⟨_, _, _, h1, _⟩ := h.at_; exact ⟨_, h1⟩
theorem dfiles_tag {c d : Nat} {F : FD.Fb} (h : FD.DW w c d F) (e : g = c ∨ g = d) : tag w g = 169 + 1 ∨ tag w g = 171 + 1 := by
  rcases e with rfl | rfl
  · obtain ⟨_, h1⟩ := h.cbk; exact .inl h1.tag
  · obtain ⟨_, h1⟩ := h.dbk; exact .inr h1.tag
theorem dbufs_tag {c d : Nat} {F : BF.Po} (h : BF.DW w c d F) (e : g = c ∨ g = d) : tag w g = 174 + 1 ∨ tag w g = 176 + 1 := by
  rcases e with rfl | rfl
  · obtain ⟨_, h1⟩ := h.cbk; exact .inl h1.tag
  · obtain ⟨_, h1⟩ := h.dbk; exact .inr h1.tag
theorem ddesk_tag {q c d a : Nat} {D : LS.Dk} (h : LS.QW w q c d a D) (e : LS.QFt q c d a g) : tag w g = 182 + 1 ∨ tag w g = 213 + 1 ∨ tag w g = 215 + 1 ∨ tag w g = 2 + 1 := by
  rcases e with rfl | rfl | rfl | rfl
  · obtain ⟨_, h1⟩ := h.qb; exact .inl h1.tag
  · obtain ⟨_, h1⟩ := h.tab.cb; exact .inr (.inl h1.tag)
  · obtain ⟨_, h1⟩ := h.tab.db; exact .inr (.inr (.inl h1.tag))
  · obtain ⟨_, h1⟩ := h.gb; exact .inr (.inr (.inr h1.tag))
theorem dsrc_tag {s : Nat} {L : List Int} (h : AN.SrcW 184 w s L) (e : g = s ∨ ASl w s g) : (g = s ∧ tag w g = 184 + 1) ∨ (ASl w s g ∧ tag w g = 3 + 1) := by
  rcases e with rfl | e
  · obtain ⟨_, _, h1, _⟩ := h.at_
    exact .inl ⟨rfl, h1.tag⟩
  · obtain ⟨cur, h1⟩ := slice_of h e
    exact .inr ⟨e, h1.tag⟩
theorem dled_tag {b lo : Nat} {v : Value} {l : List LG.Att} (h : LG.RefW w b v lo l) (e : g = b ∨ v.ownBlock = some g) : tag w g = 140 + 1 ∨ tag w g = 70 + 1 := by
  rcases e with rfl | e
  · exact .inl h.hb.tag
  · rcases h.row.2 with ⟨rfl, _⟩ | ⟨g', cap, cur, rfl, _, h2, _⟩
    · cases e
    · obtain rfl : g' = g := by simpa [Value.ownBlock] using e
      exact .inr (Bk.tag (show Bk w g' _ cur from h2))
theorem RW.tR (h : RW w x W) (e : g = x.r) : tag w g = 118 + 1 := by subst e; exact h.hr.tag
/-- What types the blocks of the document's world have. -/
theorem RW.foot_tag (h : RW w x W) (e : RFoot w x g) : tag w g ∈ [118 + 1, 169 + 1, 171 + 1, 174 + 1, 176 + 1, 182 + 1, 213 + 1, 215 + 1, 2 + 1, 184 + 1, 3 + 1, 140 + 1, 70 + 1] := by
  simp only [List.mem_cons, List.mem_nil_iff, or_false]
  rcases e with e | e | e | e | e | e
  · have := h.tR e; omega
  · have := dfiles_tag h.hF e; omega
  · have := dbufs_tag h.hP e; omega
  · have := ddesk_tag h.hD e; omega
  · rcases dsrc_tag h.hS e with e | e <;> omega
  · have := dled_tag h.hL e; omega
theorem RW.off (h : RW w x W) (hA : Bk w g t cs) (ht : (t + 1 : Nat) ∉ [118 + 1, 169 + 1, 171 + 1, 174 + 1, 176 + 1, 182 + 1, 213 + 1, 215 + 1, 2 + 1, 184 + 1, 3 + 1, 140 + 1, 70 + 1] := by decide) : ¬ RFoot w x g := fun e => ht (by rw [← hA.tag]; exact h.foot_tag e)
theorem RW.foot_lt (h : RW w x W) (e : RFoot w x g) : g < w.heap.size := by
  rcases e with rfl | (rfl | rfl) | (rfl | rfl) | e | (rfl | e) | (rfl | e)
  · exact h.hr.lt
  · exact h.hF.ct
  · exact h.hF.dt
  · exact h.hP.ct
  · exact h.hP.dt
  · exact h.hD.foot_lt e
  · exact h.hS.lt
  · obtain ⟨cur, h1⟩ := slice_of h.hS e; exact h1.lt
  · exact h.hL.hb.lt
  · exact (h.hL.row.lt g e).2
theorem RW.same (h : RW w x W) (e : ∀ g, RFoot w x g → w'.heap[g]? = w.heap[g]?) : RW w' x W ∧ ∀ g, RFoot w' x g ↔ RFoot w x g := by
  have eS : w'.heap[x.s]? = w.heap[x.s]? := e _ (.inr (.inr (.inr (.inr (.inl (.inl rfl))))))
  refine ⟨⟨h.ok, h.hr.same (e _ (.inl rfl)), h.hF.same (e _ (.inr (.inl (.inl rfl)))) (e _ (.inr (.inl (.inr rfl)))), h.hP.same (e _ (.inr (.inr (.inl (.inl rfl))))) (e _ (.inr (.inr (.inl (.inr rfl))))), h.hD.same fun g hg => e g (.inr (.inr (.inr (.inl hg)))), src_same h.hS eS fun g hg => e g (.inr (.inr (.inr (.inr (.inl (.inr hg)))))), ⟨h.hL.ok, h.hL.len, h.hL.hb.same (e _ (.inr (.inr (.inr (.inr (.inr (.inl rfl))))))), own_same h.hL.row fun g hg => e g (.inr (.inr (.inr (.inr (.inr (.inr hg)))))), h.hL.lb⟩⟩, fun g => ?_⟩
  unfold RFoot
  rw [ASl.same eS]
theorem RW.kept {S : Nat → Prop} (h : RW w x W) (k : Kept S w w') (hs : ∀ g, RFoot w x g → ¬ S g) : RW w' x W ∧ ∀ g, RFoot w' x g ↔ RFoot w x g := h.same fun g hg => k.block g (h.foot_lt hg) (hs g hg)
theorem RW.below (h : RW w x W) (k : Below w.heap.size w w') : RW w' x W ∧ ∀ g, RFoot w' x g ↔ RFoot w x g := h.same fun g hg => k.block g (h.foot_lt hg)
theorem RW.quiet (h : RW w x W) (k : Below w.heap.size w w') : RStep x x w w' := ⟨rfl, Kept.of_below k, fun g hg => .inl (((h.below k).2 g).1 hg)⟩

/-! ### one of its parts is turned -/
theorem RW.stepF {F' : FD.Fb} (h : RW w x W) (k : Kept (fun g => g = x.f ∨ g = x.fd) w w') (hF : FD.DW w' x.f x.fd F') (hok : Wd.Ok { W with F := F' }) : RW w' x { W with F := F' } ∧ RStep x x w w' := by
  have tg : ∀ {g}, (g = x.f ∨ g = x.fd) → _ := fun {g} e => dfiles_tag (g := g) h.hF e
  have eS : w'.heap[x.s]? = w.heap[x.s]? := k.block _ h.hS.lt fun e => by have := tg e; rcases dsrc_tag h.hS (.inl rfl) with y | y <;> omega
  refine ⟨⟨hok, h.hr.kept k fun e => ?_, hF, h.hP.kept k (fun e => ?_) (fun e => ?_), h.hD.kept k fun z hz e => ?_, src_same h.hS eS fun g hg => k.block g (by obtain ⟨cur, h1⟩ := slice_of h.hS hg; exact h1.lt) fun e => ?_, h.hL.kept k (fun e => ?_) (fun g hg e => ?_)⟩, ⟨rfl, k.mono fun g _ hg => .inr (.inl hg), fun g hg => .inl ?_⟩⟩
  · have := tg e; have := h.tR rfl; omega
  · have := tg e; have := dbufs_tag h.hP (.inl rfl); omega
  · have := tg e; have := dbufs_tag h.hP (.inr rfl); omega
  · have := tg e; have := ddesk_tag h.hD hz; omega
  · have := tg e; rcases dsrc_tag h.hS (.inr hg) with y | y <;> omega
  · have := tg e; have := dled_tag h.hL (.inl rfl); omega
  · have := tg e; have := dled_tag h.hL (.inr hg); omega
  · unfold RFoot at hg ⊢; rw [ASl.same eS] at hg; exact hg
theorem RW.stepP {P' : BF.Po} {d' : Nat} (h : RW w x W) (k : Kept (· = x.p) w w') (hd : d' = x.pd ∨ w.heap.size ≤ d') (hP : BF.DW w' x.p d' P') (hok : Wd.Ok { W with P := P' }) : RW w' { x with pd := d' } { W with P := P' } ∧ RStep x { x with pd := d' } w w' := by
  have tg : ∀ {g}, g = x.p → _ := fun {g} e => dbufs_tag (g := g) h.hP (.inl e)
  have eS : w'.heap[x.s]? = w.heap[x.s]? := k.block _ h.hS.lt fun e => by have := tg e; rcases dsrc_tag h.hS (.inl rfl) with y | y <;> omega
  refine ⟨⟨hok, h.hr.kept k fun e => ?_, h.hF.kept k (fun e => ?_) (fun e => ?_), hP, h.hD.kept k fun z hz e => ?_, src_same h.hS eS fun g hg => k.block g (by obtain ⟨cur, h1⟩ := slice_of h.hS hg; exact h1.lt) fun e => ?_, h.hL.kept k (fun e => ?_) (fun g hg e => ?_)⟩, ⟨rfl, k.mono fun g _ hg => .inr (.inr (.inl (.inl hg))), fun g hg => ?_⟩⟩
  · have := tg e; have := h.tR rfl; omega
  · have := tg e; have := dfiles_tag h.hF (.inl rfl); omega
  · have := tg e; have := dfiles_tag h.hF (.inr rfl); omega
  · have := tg e; have := ddesk_tag h.hD hz; omega
  · have := tg e; rcases dsrc_tag h.hS (.inr hg) with y | y <;> omega
  · have := tg e; have := dled_tag h.hL (.inl rfl); omega
  · have := tg e; have := dled_tag h.hL (.inr hg); omega
  · rcases hg with e | e | (e | e) | e | e | e
    · exact .inl (.inl e)
    · exact .inl (.inr (.inl e))
    · exact .inl (.inr (.inr (.inl (.inl e))))
    · rcases hd with y | y
      · exact .inl (.inr (.inr (.inl (.inr (e.trans y)))))
      · exact .inr (Nat.le_trans y (Nat.le_of_eq e.symm))
    · exact .inl (.inr (.inr (.inr (.inl e))))
    · refine .inl (.inr (.inr (.inr (.inr (.inl ?_)))))
      rcases e with e | e
      · exact .inl e
      · exact .inr ((ASl.same eS).1 e)
    · exact .inl (.inr (.inr (.inr (.inr (.inr e)))))
theorem RW.stepD {D' : LS.Dk} (h : RW w x W) (k : Kept (LS.QFt x.q x.qc x.qd x.qg) w w') (hD : LS.QW w' x.q x.qc x.qd x.qg D') (hok : Wd.Ok { W with D := D' }) : RW w' x { W with D := D' } ∧ RStep x x w w' := by
  have tg : ∀ {g}, LS.QFt x.q x.qc x.qd x.qg g → _ := fun {g} e => ddesk_tag (g := g) h.hD e
  have eS : w'.heap[x.s]? = w.heap[x.s]? := k.block _ h.hS.lt fun e => by have := tg e; rcases dsrc_tag h.hS (.inl rfl) with y | y <;> omega
  refine ⟨⟨hok, h.hr.kept k fun e => ?_, h.hF.kept k (fun e => ?_) (fun e => ?_), h.hP.kept k (fun e => ?_) (fun e => ?_), hD, src_same h.hS eS fun g hg => k.block g (by obtain ⟨cur, h1⟩ := slice_of h.hS hg; exact h1.lt) fun e => ?_, h.hL.kept k (fun e => ?_) (fun g hg e => ?_)⟩, ⟨rfl, k.mono fun g _ hg => .inr (.inr (.inr (.inl hg))), fun g hg => .inl ?_⟩⟩
  · have := tg e; have := h.tR rfl; omega
  · have := tg e; have := dfiles_tag h.hF (.inl rfl); omega
  · have := tg e; have := dfiles_tag h.hF (.inr rfl); omega
  · have := tg e; have := dbufs_tag h.hP (.inl rfl); omega
  · have := tg e; have := dbufs_tag h.hP (.inr rfl); omega
  · have := tg e; rcases dsrc_tag h.hS (.inr hg) with y | y <;> omega
  · have := tg e; have := dled_tag h.hL (.inl rfl); omega
  · have := tg e; have := dled_tag h.hL (.inr hg); omega
  · unfold RFoot at hg ⊢; rw [ASl.same eS] at hg; exact hg
theorem RW.stepS {L' : List Int} (h : RW w x W) (k : Kept (· = x.s) w w') (hS : AN.SrcW 184 w' x.s L') (hat : ∀ g, ASl w' x.s g → ASl w x.s g ∨ w.heap.size ≤ g) (hok : Wd.Ok { W with L := L' }) : RW w' x { W with L := L' } ∧ RStep x x w w' := by
  have tg : ∀ {g}, g = x.s → tag w g = 184 + 1 := fun {g} e => by
    subst e; obtain ⟨_, _, h1, _⟩ := h.hS.at_; exact h1.tag
  refine ⟨⟨hok, h.hr.kept k fun e => ?_, h.hF.kept k (fun e => ?_) (fun e => ?_), h.hP.kept k (fun e => ?_) (fun e => ?_), h.hD.kept k fun z hz e => ?_, hS, h.hL.kept k (fun e => ?_) (fun g hg e => ?_)⟩, ⟨rfl, k.mono fun g _ hg => .inr (.inr (.inr (.inr (.inl (.inl hg))))), fun g hg => ?_⟩⟩
  · have := tg e; have := h.tR rfl; omega
  · have := tg e; have := dfiles_tag h.hF (.inl rfl); omega
  · have := tg e; have := dfiles_tag h.hF (.inr rfl); omega
  · have := tg e; have := dbufs_tag h.hP (.inl rfl); omega
  · have := tg e; have := dbufs_tag h.hP (.inr rfl); omega
  · have := tg e; have := ddesk_tag h.hD hz; omega
  · have := tg e; have := dled_tag h.hL (.inl rfl); omega
  · have := tg e; have := dled_tag h.hL (.inr hg); omega
  · rcases hg with e | e | e | e | (e | e) | e
    · exact .inl (.inl e)
    · exact .inl (.inr (.inl e))
    · exact .inl (.inr (.inr (.inl e)))
    · exact .inl (.inr (.inr (.inr (.inl e))))
    · exact .inl (.inr (.inr (.inr (.inr (.inl (.inl e))))))
    · rcases hat g e with y | y
      · exact .inl (.inr (.inr (.inr (.inr (.inl (.inr y))))))
      · exact .inr y
    · exact .inl (.inr (.inr (.inr (.inr (.inr e)))))
theorem RW.stepL {B' : List LG.Att} {v' : Value} (h : RW w x W) (k : Kept (fun g => g = x.g ∨ x.v.ownBlock = some g) w w') (hL : LG.RefW w' x.g v' x.lo B') (hv : ∀ g, v'.ownBlock = some g → x.v.ownBlock = some g ∨ w.heap.size ≤ g) (hok : Wd.Ok { W with B := B' }) : RW w' { x with v := v' } { W with B := B' } ∧ RStep x { x with v := v' } w w' := by
  have tg : ∀ {g}, (g = x.g ∨ x.v.ownBlock = some g) → _ := fun {g} e => dled_tag (g := g) h.hL e
  have eS : w'.heap[x.s]? = w.heap[x.s]? := k.block _ h.hS.lt fun e => by have := tg e; rcases dsrc_tag h.hS (.inl rfl) with y | y <;> omega
  refine ⟨⟨hok, h.hr.kept k fun e => ?_, h.hF.kept k (fun e => ?_) (fun e => ?_), h.hP.kept k (fun e => ?_) (fun e => ?_), h.hD.kept k fun z hz e => ?_, src_same h.hS eS fun g hg => k.block g (by obtain ⟨cur, h1⟩ := slice_of h.hS hg; exact h1.lt) fun e => ?_, hL⟩, ⟨rfl, k.mono fun g _ hg => .inr (.inr (.inr (.inr (.inr hg)))), fun g hg => ?_⟩⟩
  · have := tg e; have := h.tR rfl; omega
  · have := tg e; have := dfiles_tag h.hF (.inl rfl); omega
  · have := tg e; have := dfiles_tag h.hF (.inr rfl); omega
  · have := tg e; have := dbufs_tag h.hP (.inl rfl); omega
  · have := tg e; have := dbufs_tag h.hP (.inr rfl); omega
  · have := tg e; have := ddesk_tag h.hD hz; omega
  · have := tg e; rcases dsrc_tag h.hS (.inr hg) with y | y <;> omega
  · rcases hg with e | e | e | e | e | (e | e)
    · exact .inl (.inl e)
    · exact .inl (.inr (.inl e))
    · exact .inl (.inr (.inr (.inl e)))
    · exact .inl (.inr (.inr (.inr (.inl e))))
    · refine .inl (.inr (.inr (.inr (.inr (.inl ?_)))))
      rcases e with e | e
      · exact .inl e
      · exact .inr ((ASl.same eS).1 e)
    · exact .inl (.inr (.inr (.inr (.inr (.inr (.inl e))))))
    · rcases hv g e with y | y
      · exact .inl (.inr (.inr (.inr (.inr (.inr (.inr y))))))
      · exact .inr y
theorem RW.stepT {T' : Int} (h : RW w x W) (hok : Wd.Ok { W with T := T' }) : RW (w.setCell ⟨x.r, 6, none⟩ (.int .i64 T')) x { W with T := T' } ∧ RStep x x w (w.setCell ⟨x.r, 6, none⟩ (.int .i64 T')) := by
  have k : Kept (· = x.r) w (w.setCell ⟨x.r, 6, none⟩ (.int .i64 T')) := (Kept.refl (· = x.r) _).put1 6 _
  have tg : ∀ {g}, g = x.r → _ := fun {g} e => h.tR (g := g) e
  have eS : (w.setCell ⟨x.r, 6, none⟩ (.int .i64 T')).heap[x.s]? = w.heap[x.s]? := k.block _ h.hS.lt fun e => by have := tg e; rcases dsrc_tag h.hS (.inl rfl) with y | y <;> omega
  refine ⟨⟨hok, h.hr.put 6 _, h.hF.kept k (fun e => ?_) (fun e => ?_), h.hP.kept k (fun e => ?_) (fun e => ?_), h.hD.kept k fun z hz e => ?_, src_same h.hS eS fun g hg => k.block g (by obtain ⟨cur, h1⟩ := slice_of h.hS hg; exact h1.lt) fun e => ?_, h.hL.kept k (fun e => ?_) (fun g hg e => ?_)⟩, ⟨rfl, k.mono fun g _ hg => .inl hg, fun g hg => .inl ?_⟩⟩
  · have := tg e; have := dfiles_tag h.hF (.inl rfl); omega
  · have := tg e; have := dfiles_tag h.hF (.inr rfl); omega
  · have := tg e; have := dbufs_tag h.hP (.inl rfl); omega
  · have := tg e; have := dbufs_tag h.hP (.inr rfl); omega
  · have := tg e; have := ddesk_tag h.hD hz; omega
  · have := tg e; rcases dsrc_tag h.hS (.inr hg) with y | y <;> omega
  · have := tg e; have := dled_tag h.hL (.inl rfl); omega
  · have := tg e; have := dled_tag h.hL (.inr hg); omega
  · unfold RFoot at hg ⊢; rw [ASl.same eS] at hg; exact hg
/-! ### its cells -/
theorem RW.c0 (h : RW w x W) : w.cell? ⟨x.r, 0, none⟩ = some (.bool true) := h.hr.cell 0
theorem RW.c1 (h : RW w x W) : w.cell? ⟨x.r, 1, none⟩ = some (ptr x.f) := h.hr.cell 1
theorem RW.c2 (h : RW w x W) : w.cell? ⟨x.r, 2, none⟩ = some (ptr x.p) := h.hr.cell 2
theorem RW.c3 (h : RW w x W) : w.cell? ⟨x.r, 3, none⟩ = some (ptr x.q) := h.hr.cell 3
theorem RW.c4 (h : RW w x W) : w.cell? ⟨x.r, 4, none⟩ = some (ptr x.s) := h.hr.cell 4
theorem RW.c5 (h : RW w x W) : w.cell? ⟨x.r, 5, none⟩ = some (ptr x.g) := h.hr.cell 5
theorem RW.c6 (h : RW w x W) : w.cell? ⟨x.r, 6, none⟩ = some (.int .i64 W.T) := h.hr.cell 6
theorem RW.fz (h : RW w x W) (i : Nat) : w.frozen? ⟨x.r, i, none⟩ = false := h.hr.frozen i
end
/-- The document's world, in memory that was made since w0. -/
structure RSt (w0 w : World) (x : Rx) (W : Wd) : Prop where
  f : RW w x W
  bel : Below w0.heap.size w0 w
  lo : ∀ g, RFoot w x g → w0.heap.size ≤ g
section
variable {w0 w w' : World} {x y : Rx} {W U : Wd}
theorem RSt.step (h : RSt w0 w x W) (q : RStep x y w w') (hf : RW w' y U) : RSt w0 w' y U :=
  ⟨hf, h.bel.trans (q.k.below h.bel.size h.lo), fun g hg => by rcases q.g g hg with e | e; exact h.lo g e; exact Nat.le_trans h.bel.size e⟩
theorem RSt.quiet (h : RSt w0 w x W) (q : Below w.heap.size w w') : RSt w0 w' x W := h.step (h.f.quiet q) (h.f.below q).1
end
end Go.Proofs.YtpinmiplefidpaaGreatDoor
