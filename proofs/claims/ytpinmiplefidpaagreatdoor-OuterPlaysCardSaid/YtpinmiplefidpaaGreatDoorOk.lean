/- Words for memory: where a world's parts lie, which blocks are its own, what a call leaves of other things; each part turned alone. -/
import Derived.Test.YtpinmiplefidpaaGreatDoorOm
import Derived.Test.YtpinmiplefidpaaGreatDoorMF
import Derived.Test.YtpinmiplefidpaaGreatDoorMU
import Derived.Test.YtpinmiplefidpaaGreatDoorMY
import Derived.Test.YtpinmiplefidpaaGreatDoorMA
import Derived.Test.YtpinmiplefidpaaGreatDoorMH
namespace Go.Proofs.YtpinmiplefidpaaGreatDoor
open Go.RowKit

/-- Where the parts lie. -/
structure Ad where
  b : Nat
  p : Nat
  f : Nat
  fk : Nat
  fm : Nat
  q : Nat
  qs : Nat
  qk : Nat
  d : Nat
  dk : Nat
  da : Nat
  s : Nat
  l : Nat
  lb : Nat
  lo : Nat
def ptr (b : Nat) : Value := .pointer (some ⟨b, 0, none⟩)
def vF (b : Nat) : Value := .iface 94 (.agg #[.pointer (some ⟨b, 0, none⟩)])
def vP (b : Nat) : Value := .iface 96 (.agg #[.pointer (some ⟨b, 0, none⟩)])
def vD (b : Nat) : Value := .iface 98 (.agg #[.pointer (some ⟨b, 0, none⟩)])
def pcells (A : Ad) (T : Int) : Array Value := #[vF A.f, vP A.q, vD A.d, ptr A.s, ptr A.l, .int .i64 T]
/-- The slice of a source's answers lies in block g. -/
def ASl (w : World) (s g : Nat) : Prop := ∃ (a : Addr) (n c : Nat), w.cell? ⟨s, 1, none⟩ = some (.slice (some a) n c) ∧ a.block = g
/-- All blocks of a world. -/
def WFoot (w : World) (A : Ad) (g : Nat) : Prop :=
  (g = A.b ∨ g = A.p) ∨ FD.FFoot A.f A.fk A.fm g ∨ BF.PFoot A.q A.qs A.qk g ∨ LS.DFoot A.d A.dk A.da g ∨ (g = A.s ∨ ASl w A.s g) ∨ g = A.l ∨ LG.Foot w A.lb g
structure WW (w : World) (A : Ad) (W : Wd) : Prop where
  ok : W.Ok
  hb : Bk w A.b 63 #[ptr A.p]
  hp : Bk w A.p 105 (pcells A W.T)
  hF : FD.FW w A.f A.fk A.fm W.F
  hP : BF.PW w A.q A.qs A.qk W.P
  hD : LS.DkW w A.d A.dk A.da W.D
  hS : AN.SrcW 166 w A.s W.L
  hL : LG.LedW w A.l A.lb A.lo W.B
  nfq : A.fk ≠ A.qk
  nfd : A.fk ≠ A.dk
  nqd : A.qk ≠ A.dk
  nm : ¬ LG.Foot w A.lb A.fm
  ns : ∀ g, ASl w A.s g → ¬ LG.Foot w A.lb g
/-- What a call on a world turns: its own blocks alone; and its own blocks are those it had, or new. -/
structure WStep (A : Ad) (w w' : World) : Prop where
  k : Kept (WFoot w A) w w'
  g : ∀ g, WFoot w' A g → WFoot w A g ∨ w.heap.size ≤ g
theorem Kept.trans' {S T : Nat → Prop} {a b c : World} (h : Kept S a b) (k : Kept T b c) (hT : ∀ g, T g → S g ∨ a.heap.size ≤ g) : Kept S a c :=
  ⟨k.os.trans h.os, k.tape.trans h.tape, k.output.trans h.output, Nat.le_trans h.size k.size, fun i hi hs => (k.block i (Nat.lt_of_lt_of_le hi h.size) (fun x => by rcases hT i x with y | y; exact hs y; omega)).trans (h.block i hi hs)⟩
/-- The type of a block's cells, and one more; 0 for another block. -/
def tag (w : World) (g : Nat) : Nat := match w.heap[g]? with | some (.cells _ t _) => t + 1 | _ => 0
section
variable {w w' w'' : World} {A : Ad} {W U : Wd} {g : Nat} {t : TypeId} {cs : Array Value}
theorem Bk.tag (h : Bk w g t cs) : tag w g = t + 1 := by
  unfold Bk at h
  unfold Go.Proofs.YtpinmiplefidpaaGreatDoor.tag
  rw [h]
theorem WStep.refl (A : Ad) (w : World) : WStep A w w := ⟨Kept.refl _ _, fun _ h => .inl h⟩
theorem WStep.trans (h : WStep A w w') (k : WStep A w' w'') : WStep A w w'' :=
  ⟨h.k.trans' k.k h.g, fun i hi => by
    rcases k.g i hi with x | x
    · exact h.g i x
    · exact .inr (Nat.le_trans h.k.size x)⟩

/-! ### the slice of the answers -/
theorem ASl.same {s : Nat} (e : w'.heap[s]? = w.heap[s]?) : ASl w' s g ↔ ASl w s g := by
  have e' := World.cell?_of_block (a := ⟨s, 1, none⟩) e
  unfold ASl
  rw [e']
theorem slice_of {s : Nat} {L : List Int} (h : AN.SrcW t w s L) (k : ASl w s g) : ∃ cur, Bk w g 3 cur := by
  obtain ⟨a, c, _, hc, _, hsl, _⟩ := h.cells
  obtain ⟨b, n', c', hb, rfl⟩ := k
  rw [hc] at hb
  injection hb with hb
  injection hb with e1 e2 e3
  obtain ⟨a', c2, e, _, _, _, h4⟩ := hsl
  injection e with e4 e5 e6
  obtain ⟨q, off, cur, e7, hq, _⟩ := h4 b (e4.symm.trans e1)
  subst e7
  exact ⟨cur, hq⟩
theorem src_same {s : Nat} {L : List Int} (h : AN.SrcW t w s L) (e : w'.heap[s]? = w.heap[s]?) (e2 : ∀ g, ASl w s g → w'.heap[g]? = w.heap[g]?) : AN.SrcW t w' s L := by
  obtain ⟨ok, a, c, hb, a', c', e3, h1, h2, h3, h4⟩ := h
  refine ⟨ok, a, c, hb.same e, a', c', e3, h1, h2, h3, fun b hb' => ?_⟩
  obtain ⟨q, off, cur, e7, hq, hc⟩ := h4 b hb'
  refine ⟨q, off, cur, e7, hq.same (e2 q ⟨b, L.length, c, ?_, by rw [e7]⟩), hc⟩
  injection e3 with e4 e5 e6
  rw [hb.cell, e4, hb']
  rfl

/-! ### what kind of block is whose -/
theorem foot_tag {l lb lo : Nat} {B : List LG.Att} (h : LG.LedW w l lb lo B) (k : LG.Foot w lb g) : tag w g = 135 + 1 ∨ tag w g = 0 ∨ tag w g = 70 + 1 ∨ tag w g = 3 + 1 := by
  obtain ⟨m, v, hB⟩ := h.book
  rcases hB.foot.1 k with rfl | rfl | e | e
  · exact .inl hB.hk.tag
  · obtain ⟨D, ⟨es, clock, hm, _⟩, _⟩ := hB.grp
    refine .inr (.inl ?_)
    unfold Go.Proofs.YtpinmiplefidpaaGreatDoor.tag
    rw [hm]
  · rcases hB.row.2 with ⟨rfl, _⟩ | ⟨g', cap, cur, rfl, _, h2, _⟩
    · cases e
    · obtain rfl : g' = g := by simpa [Value.ownBlock] using e
      exact .inr (.inr (.inl (Bk.tag (show Bk w g' _ cur from h2))))
  · obtain ⟨D, hD, _⟩ := hB.grp
    obtain ⟨cs', hc⟩ := LG.gfoot_type hD e
    exact .inr (.inr (.inr (Bk.tag (show Bk w g 3 cs' from hc))))
theorem files_tag {b k m : Nat} {F : FD.Fb} (h : FD.FW w b k m F) (e : FD.FFoot b k m g) : tag w g = 153 + 1 ∨ (g = k ∧ tag w g = 210 + 1) ∨ (g = m ∧ tag w g = 0) := by
  rcases e with rfl | rfl | rfl
  · exact .inl h.hb.tag
  · exact .inr (.inl ⟨rfl, h.tab.bk.tag⟩)
  · obtain ⟨D, ⟨es, clock, hm, _⟩, _⟩ := h.map
    refine .inr (.inr ⟨rfl, ?_⟩)
    unfold Go.Proofs.YtpinmiplefidpaaGreatDoor.tag
    rw [hm]
theorem bufs_tag {b s k : Nat} {P : BF.Po} (h : BF.PW w b s k P) (e : BF.PFoot b s k g) : tag w g = 159 + 1 ∨ tag w g = 157 + 1 ∨ (g = k ∧ tag w g = 210 + 1) := by
  rcases e with rfl | rfl | rfl
  · exact .inl h.hb.tag
  · exact .inr (.inl h.hs.tag)
  · exact .inr (.inr ⟨rfl, h.tab.bk.tag⟩)
theorem desk_tag {b k a : Nat} {D : LS.Dk} (h : LS.DkW w b k a D) (e : LS.DFoot b k a g) : tag w g = 163 + 1 ∨ (g = k ∧ tag w g = 210 + 1) ∨ tag w g = 161 + 1 := by
  rcases e with rfl | rfl | rfl
  · exact .inl h.hb.tag
  · exact .inr (.inl ⟨rfl, h.tab.bk.tag⟩)
  · exact .inr (.inr h.ha.tag)
theorem src_tag {s : Nat} {L : List Int} (h : AN.SrcW 166 w s L) (e : g = s ∨ ASl w s g) : (g = s ∧ tag w g = 166 + 1) ∨ (ASl w s g ∧ tag w g = 3 + 1) := by
  rcases e with rfl | e
  · obtain ⟨_, _, h1, _⟩ := h.at_
    exact .inl ⟨rfl, h1.tag⟩
  · obtain ⟨cur, h1⟩ := slice_of h e
    exact .inr ⟨e, h1.tag⟩
theorem WW.tB (h : WW w A W) (e : g = A.b) : tag w g = 63 + 1 := by subst e; exact h.hb.tag
theorem WW.tP (h : WW w A W) (e : g = A.p) : tag w g = 105 + 1 := by subst e; exact h.hp.tag
theorem WW.tL (h : WW w A W) (e : g = A.l) : tag w g = 138 + 1 := by subst e; exact h.hL.hb.tag
theorem WW.foot_tag (h : WW w A W) (e : WFoot w A g) : tag w g = 63 + 1 ∨ tag w g = 105 + 1 ∨ tag w g = 153 + 1 ∨ tag w g = 210 + 1 ∨ tag w g = 0 ∨ tag w g = 159 + 1 ∨ tag w g = 157 + 1 ∨ tag w g = 163 + 1 ∨ tag w g = 161 + 1 ∨ tag w g = 166 + 1 ∨ tag w g = 3 + 1 ∨ tag w g = 138 + 1 ∨ tag w g = 135 + 1 ∨ tag w g = 70 + 1 := by
  rcases e with (e | e) | e | e | e | e | e | e
  · have := h.tB e; omega
  · have := h.tP e; omega
  · have := files_tag h.hF e; omega
  · have := bufs_tag h.hP e; omega
  · have := desk_tag h.hD e; omega
  · rcases src_tag h.hS e with e | e <;> omega
  · have := h.tL e; omega
  · have := Go.Proofs.YtpinmiplefidpaaGreatDoor.foot_tag h.hL e; omega
/-- A block of another type is no part of a world. -/
theorem WW.off (h : WW w A W) (hA : Bk w g t cs) (ht : (t + 1 : Nat) ∉ [63 + 1, 105 + 1, 153 + 1, 210 + 1, 159 + 1, 157 + 1, 163 + 1, 161 + 1, 166 + 1, 3 + 1, 138 + 1, 135 + 1, 70 + 1] := by decide) : ¬ WFoot w A g := by
  intro e
  have h1 := h.foot_tag e
  have h2 := hA.tag
  rw [← h2] at ht
  rcases h1 with e | e | e | e | e | e | e | e | e | e | e | e | e | e
  all_goals first | exact absurd (h2.symm.trans e) (Nat.succ_ne_zero t) | exact ht (by rw [e]; decide)
theorem WW.foot_lt (h : WW w A W) (e : WFoot w A g) : g < w.heap.size := by
  rcases e with (rfl | rfl) | e | e | e | e | rfl | e
  · exact h.hb.lt
  · exact h.hp.lt
  · exact h.hF.foot_lt e
  · exact h.hP.foot_lt e
  · exact h.hD.foot_lt e
  · rcases e with rfl | e
    · exact h.hS.lt
    · obtain ⟨cur, h1⟩ := slice_of h.hS e; exact h1.lt
  · exact h.hL.hb.lt
  · exact (h.hL.foot_le e).2

/-! ### a world stays, or one of its parts is turned -/
theorem WW.same (h : WW w A W) (e : ∀ g, WFoot w A g → w'.heap[g]? = w.heap[g]?) : WW w' A W ∧ ∀ g, WFoot w' A g ↔ WFoot w A g := by
  have eS : w'.heap[A.s]? = w.heap[A.s]? := e _ (.inr (.inr (.inr (.inr (.inl (.inl rfl))))))
  have hL : LG.LedW w' A.l A.lb A.lo W.B ∧ ∀ g, LG.Foot w' A.lb g ↔ LG.Foot w A.lb g := by
    obtain ⟨m, v, hB⟩ := h.hL.book
    have st : ∀ g, LG.Foot w A.lb g → w'.heap[g]? = w.heap[g]? := fun g hg => e g (.inr (.inr (.inr (.inr (.inr (.inr hg))))))
    obtain ⟨D, hD, hM⟩ := hB.grp
    obtain ⟨hD', hf⟩ := LG.groups_same hD (st m (hB.foot.2 (.inr (.inl rfl)))) (fun g hg => st g (hB.foot.2 (.inr (.inr (.inr hg)))))
    have h' : LG.BookW w' A.lb m v A.lo W.B := ⟨hB.ok, hB.len, hB.hk.same (st A.lb (.inl rfl)), own_same hB.row fun g hg => st g (hB.foot.2 (.inr (.inr (.inl hg)))), ⟨D, hD', hM⟩, hB.lb, hB.lm⟩
    refine ⟨⟨h.hL.hb.same (e _ (.inr (.inr (.inr (.inr (.inr (.inl rfl))))))), m, v, h'⟩, fun g => ?_⟩
    rw [h'.foot, hB.foot, hf]
  have hA : ∀ g, ASl w' A.s g ↔ ASl w A.s g := fun g => ASl.same eS
  refine ⟨⟨h.ok, h.hb.same (e _ (.inl (.inl rfl))), h.hp.same (e _ (.inl (.inr rfl))), h.hF.same fun g hg => e g (.inr (.inl hg)), h.hP.same fun g hg => e g (.inr (.inr (.inl hg))), h.hD.same fun g hg => e g (.inr (.inr (.inr (.inl hg)))), src_same h.hS eS fun g hg => e g (.inr (.inr (.inr (.inr (.inl (.inr hg)))))), hL.1, h.nfq, h.nfd, h.nqd, fun x => h.nm ((hL.2 _).1 x), fun g hg x => h.ns g ((hA g).1 hg) ((hL.2 _).1 x)⟩, fun g => ?_⟩
  unfold WFoot
  rw [hL.2, hA]
theorem WW.kept {S : Nat → Prop} (h : WW w A W) (k : Kept S w w') (hs : ∀ g, WFoot w A g → ¬ S g) : WW w' A W ∧ ∀ g, WFoot w' A g ↔ WFoot w A g := h.same fun g hg => k.block g (h.foot_lt hg) (hs g hg)
theorem WW.below (h : WW w A W) (k : Below w.heap.size w w') : WW w' A W ∧ ∀ g, WFoot w' A g ↔ WFoot w A g := h.same fun g hg => k.block g (h.foot_lt hg)
theorem WW.quiet (h : WW w A W) (k : Below w.heap.size w w') : WStep A w w' := ⟨Kept.of_below k, fun g hg => .inl (((h.below k).2 g).1 hg)⟩
theorem WW.turn {S : Nat → Prop} (h : WW w A W) (q : Kept S w w') (hS : ∀ g, S g → WFoot w A g) (hok : U.Ok) (hb : ¬ S A.b) (hp : Bk w' A.p 105 (pcells A U.T)) (hF : FD.FW w' A.f A.fk A.fm U.F) (hP : BF.PW w' A.q A.qs A.qk U.P) (hD : LS.DkW w' A.d A.dk A.da U.D)
    (hs : AN.SrcW 166 w' A.s U.L) (hL : LG.LedW w' A.l A.lb A.lo U.B) (g1 : ∀ g, LG.Foot w' A.lb g → LG.Foot w A.lb g ∨ w.heap.size ≤ g) (g2 : ∀ g, ASl w' A.s g → ASl w A.s g ∨ w.heap.size ≤ g) (g3 : ∀ g, ASl w' A.s g → ¬ LG.Foot w' A.lb g) : WW w' A U ∧ WStep A w w' := by
  refine ⟨⟨hok, h.hb.kept q hb, hp, hF, hP, hD, hs, hL, h.nfq, h.nfd, h.nqd, fun x => ?_, g3⟩, q.mono fun g _ hg => hS g hg, fun g hg => ?_⟩
  · rcases g1 _ x with y | y
    · exact h.nm y
    · have := h.hF.foot_lt (g := A.fm) (.inr (.inr rfl)); omega
  · rcases hg with e | e | e | e | e | e | e
    · exact .inl (.inl e)
    · exact .inl (.inr (.inl e))
    · exact .inl (.inr (.inr (.inl e)))
    · exact .inl (.inr (.inr (.inr (.inl e))))
    · rcases e with e | e
      · exact .inl (.inr (.inr (.inr (.inr (.inl (.inl e))))))
      · rcases g2 g e with y | y
        · exact .inl (.inr (.inr (.inr (.inr (.inl (.inr y))))))
        · exact .inr y
    · exact .inl (.inr (.inr (.inr (.inr (.inr (.inl e))))))
    · rcases g1 g e with y | y
      · exact .inl (.inr (.inr (.inr (.inr (.inr (.inr y))))))
      · exact .inr y
/-- What the other parts are while one is turned. -/
theorem WW.rest {S : Nat → Prop} (h : WW w A W) (q : Kept S w w') (hl : ¬ S A.l) (hk : ∀ g, LG.Foot w A.lb g → ¬ S g) (hs : ∀ g, g = A.s ∨ ASl w A.s g → ¬ S g) :
    AN.SrcW 166 w' A.s W.L ∧ LG.LedW w' A.l A.lb A.lo W.B ∧ (∀ g, LG.Foot w' A.lb g → LG.Foot w A.lb g ∨ w.heap.size ≤ g) ∧ (∀ g, ASl w' A.s g → ASl w A.s g ∨ w.heap.size ≤ g) ∧ ∀ g, ASl w' A.s g → ¬ LG.Foot w' A.lb g := by
  obtain ⟨h1, h2⟩ := h.hL.kept q hl hk
  have eS : w'.heap[A.s]? = w.heap[A.s]? := q.block _ h.hS.lt (hs _ (.inl rfl))
  have h3 := src_same (w' := w') h.hS eS fun g hg => q.block g (by obtain ⟨cur, hc⟩ := slice_of h.hS hg; exact hc.lt) (hs g (.inr hg))
  have h4 : ∀ g, ASl w' A.s g ↔ ASl w A.s g := fun g => ASl.same eS
  exact ⟨h3, h1, fun g hg => .inl ((h2 g).1 hg), fun g hg => .inl ((h4 g).1 hg), fun g hg x => h.ns g ((h4 g).1 hg) ((h2 g).1 x)⟩
theorem WW.stepF {F' : FD.Fb} (h : WW w A W) (q : Kept (FD.FFoot A.f A.fk A.fm) w w') (hF : FD.FW w' A.f A.fk A.fm F') (hok : Wd.Ok { W with F := F' }) : WW w' A { W with F := F' } ∧ WStep A w w' := by
  have z1 := h.nfq
  have z2 := h.nfd
  obtain ⟨h1, h2, h3, h4, h5⟩ := h.rest q (fun x => by have := files_tag h.hF x; have := h.tL rfl; omega)
    (fun g hg x => by
      have y1 := files_tag h.hF x
      have y2 := Go.Proofs.YtpinmiplefidpaaGreatDoor.foot_tag h.hL hg
      have : g ≠ A.fm := by rintro rfl; exact h.nm hg
      omega)
    (fun g hg x => by have y1 := files_tag h.hF x; rcases src_tag h.hS hg with y2 | y2 <;> omega)
  refine h.turn q (fun g hg => .inr (.inl hg)) hok (fun x => ?_) (h.hp.kept q fun x => ?_) hF (h.hP.kept q fun g hg x => ?_) (h.hD.kept q fun g hg x => ?_) h1 h2 h3 h4 h5
  · have := files_tag h.hF x; have := h.tB rfl; omega
  · have := files_tag h.hF x; have := h.tP rfl; omega
  · have := files_tag h.hF x; have := bufs_tag h.hP hg; omega
  · have := files_tag h.hF x; have := desk_tag h.hD hg; omega
theorem WW.stepP {P' : BF.Po} (h : WW w A W) (q : Kept (BF.PFoot A.q A.qs A.qk) w w') (hP : BF.PW w' A.q A.qs A.qk P') (hok : Wd.Ok { W with P := P' }) : WW w' A { W with P := P' } ∧ WStep A w w' := by
  have z1 := h.nfq
  have z2 := h.nqd
  obtain ⟨h1, h2, h3, h4, h5⟩ := h.rest q (fun x => by have := bufs_tag h.hP x; have := h.tL rfl; omega)
    (fun g hg x => by
      have y1 := bufs_tag h.hP x
      have y2 := Go.Proofs.YtpinmiplefidpaaGreatDoor.foot_tag h.hL hg
      omega)
    (fun g hg x => by have y1 := bufs_tag h.hP x; rcases src_tag h.hS hg with y2 | y2 <;> omega)
  refine h.turn q (fun g hg => .inr (.inr (.inl hg))) hok (fun x => ?_) (h.hp.kept q fun x => ?_) (h.hF.kept q fun g hg x => ?_) hP (h.hD.kept q fun g hg x => ?_) h1 h2 h3 h4 h5
  · have := bufs_tag h.hP x; have := h.tB rfl; omega
  · have := bufs_tag h.hP x; have := h.tP rfl; omega
  · have := bufs_tag h.hP x; have := files_tag h.hF hg; omega
  · have := bufs_tag h.hP x; have := desk_tag h.hD hg; omega
theorem WW.stepD {D' : LS.Dk} (h : WW w A W) (q : Kept (LS.DFoot A.d A.dk A.da) w w') (hD : LS.DkW w' A.d A.dk A.da D') (hok : Wd.Ok { W with D := D' }) : WW w' A { W with D := D' } ∧ WStep A w w' := by
  have z1 := h.nfd
  have z2 := h.nqd
  obtain ⟨h1, h2, h3, h4, h5⟩ := h.rest q (fun x => by have := desk_tag h.hD x; have := h.tL rfl; omega)
    (fun g hg x => by
      have y1 := desk_tag h.hD x
      have y2 := Go.Proofs.YtpinmiplefidpaaGreatDoor.foot_tag h.hL hg
      omega)
    (fun g hg x => by have y1 := desk_tag h.hD x; rcases src_tag h.hS hg with y2 | y2 <;> omega)
  refine h.turn q (fun g hg => .inr (.inr (.inr (.inl hg)))) hok (fun x => ?_) (h.hp.kept q fun x => ?_) (h.hF.kept q fun g hg x => ?_) (h.hP.kept q fun g hg x => ?_) hD h1 h2 h3 h4 h5
  · have := desk_tag h.hD x; have := h.tB rfl; omega
  · have := desk_tag h.hD x; have := h.tP rfl; omega
  · have := desk_tag h.hD x; have := files_tag h.hF hg; omega
  · have := desk_tag h.hD x; have := bufs_tag h.hP hg; omega
/-- The answers are turned: At says where they lie then. -/
theorem WW.stepS {L' : List Int} (h : WW w A W) (q : Kept (· = A.s) w w') (hS : AN.SrcW 166 w' A.s L') (hat : ∀ P : Nat → Prop, (∀ k, w.heap.size ≤ k → P k) → AN.At w A.s P → AN.At w' A.s P) (hok : Wd.Ok { W with L := L' }) : WW w' A { W with L := L' } ∧ WStep A w w' := by
  have hsrc : ∀ {g}, g = A.s → tag w g = 166 + 1 := fun {g} e => by
    subst e; obtain ⟨_, _, h1, _⟩ := h.hS.at_; exact h1.tag
  obtain ⟨h1, h2⟩ := h.hL.kept q (fun x => by have := hsrc x; have := h.tL rfl; omega) (fun g hg x => by have := hsrc x; have := Go.Proofs.YtpinmiplefidpaaGreatDoor.foot_tag h.hL hg; omega)
  have hg2 : ∀ g, ASl w' A.s g → ASl w A.s g ∨ w.heap.size ≤ g := by
    obtain ⟨a, c, hc0, hc1, _, _, _⟩ := h.hS.cells
    have h0 : AN.At w A.s (fun g => ASl w A.s g ∨ w.heap.size ≤ g) := ⟨a, _, c, hc1, fun a0 e => .inl ⟨a0, _, c, by rw [hc1, e], rfl⟩⟩
    obtain ⟨a', n', c', h3, h4⟩ := hat _ (fun k hk => .inr hk) h0
    rintro g ⟨b, n2, c2, h5, rfl⟩
    rw [h3] at h5
    injection h5 with h5
    injection h5 with h6 _ _
    exact h4 b h6
  refine h.turn q (fun g hg => .inr (.inr (.inr (.inr (.inl (.inl hg)))))) hok (fun x => ?_) (h.hp.kept q fun x => ?_) (h.hF.kept q fun g hg x => ?_) (h.hP.kept q fun g hg x => ?_) (h.hD.kept q fun g hg x => ?_) hS h1 (fun g hg => .inl ((h2 g).1 hg)) hg2 (fun g hg x => ?_)
  · have := hsrc x; have := h.tB rfl; omega
  · have := hsrc x; have := h.tP rfl; omega
  · have := hsrc x; have := files_tag h.hF hg; omega
  · have := hsrc x; have := bufs_tag h.hP hg; omega
  · have := hsrc x; have := desk_tag h.hD hg; omega
  · rcases hg2 g hg with y | y
    · exact h.ns g y ((h2 g).1 x)
    · have := (h.hL.foot_le ((h2 g).1 x)).2; omega
theorem WW.stepL {B' : List LG.Att} (h : WW w A W) (q : Kept (LG.Foot w A.lb) w w') (hL : LG.LedW w' A.l A.lb A.lo B') (hg : ∀ g, LG.Foot w' A.lb g → LG.Foot w A.lb g ∨ w.heap.size ≤ g) (hok : Wd.Ok { W with B := B' }) : WW w' A { W with B := B' } ∧ WStep A w w' := by
  have eS : w'.heap[A.s]? = w.heap[A.s]? := q.block _ h.hS.lt fun x => by have y := Go.Proofs.YtpinmiplefidpaaGreatDoor.foot_tag h.hL x; obtain ⟨_, _, h1, _⟩ := h.hS.at_; have := h1.tag; omega
  have h3 := src_same (w' := w') h.hS eS fun g hg => q.block g (by obtain ⟨cur, hc⟩ := slice_of h.hS hg; exact hc.lt) (h.ns g hg)
  have h4 : ∀ g, ASl w' A.s g ↔ ASl w A.s g := fun g => ASl.same eS
  refine h.turn q (fun g hg => .inr (.inr (.inr (.inr (.inr (.inr hg)))))) hok (fun x => ?_) (h.hp.kept q fun x => ?_) (h.hF.kept q fun g hg x => ?_) (h.hP.kept q fun g hg x => ?_) (h.hD.kept q fun g hg x => ?_) h3 hL hg (fun g hg => .inl ((h4 g).1 hg)) (fun g hs x => ?_)
  · have := Go.Proofs.YtpinmiplefidpaaGreatDoor.foot_tag h.hL x; have := h.tB rfl; omega
  · have := Go.Proofs.YtpinmiplefidpaaGreatDoor.foot_tag h.hL x; have := h.tP rfl; omega
  · have y1 := files_tag h.hF hg
    have y2 := Go.Proofs.YtpinmiplefidpaaGreatDoor.foot_tag h.hL x
    have : g ≠ A.fm := by rintro rfl; exact h.nm x
    omega
  · have := Go.Proofs.YtpinmiplefidpaaGreatDoor.foot_tag h.hL x; have := bufs_tag h.hP hg; omega
  · have := Go.Proofs.YtpinmiplefidpaaGreatDoor.foot_tag h.hL x; have := desk_tag h.hD hg; omega
  · have y := (h4 g).1 hs
    rcases hg g x with z | z
    · exact h.ns g y z
    · obtain ⟨cur, hc⟩ := slice_of h.hS y; have := hc.lt; omega
theorem WW.stepT {T' : Int} (h : WW w A W) (hok : Wd.Ok { W with T := T' }) : WW (w.setCell ⟨A.p, 5, none⟩ (.int .i64 T')) A { W with T := T' } ∧ WStep A w (w.setCell ⟨A.p, 5, none⟩ (.int .i64 T')) := by
  have q : Kept (· = A.p) w (w.setCell ⟨A.p, 5, none⟩ (.int .i64 T')) := (Kept.refl _ _).put1 5 _
  obtain ⟨h1, h2, h3, h4, h5⟩ := h.rest q (fun x => by have := h.tP x; have := h.tL rfl; omega) (fun g hg x => by have := h.tP x; have := Go.Proofs.YtpinmiplefidpaaGreatDoor.foot_tag h.hL hg; omega) (fun g hg x => by have := h.tP x; rcases src_tag h.hS hg with y2 | y2 <;> omega)
  refine h.turn q (fun g hg => .inl (.inr hg)) hok (fun x => ?_) (h.hp.put 5 _) (h.hF.kept q fun g hg x => ?_) (h.hP.kept q fun g hg x => ?_) (h.hD.kept q fun g hg x => ?_) h1 h2 h3 h4 h5
  · have := h.tP x; have := h.tB rfl; omega
  · have := h.tP x; have := files_tag h.hF hg; omega
  · have := h.tP x; have := bufs_tag h.hP hg; omega
  · have := h.tP x; have := desk_tag h.hD hg; omega
/-! ### its cells -/
theorem WW.c0 (h : WW w A W) : w.cell? ⟨A.b, 0, none⟩ = some (ptr A.p) := h.hb.cell 0
theorem WW.p0 (h : WW w A W) : w.cell? ⟨A.p, 0, none⟩ = some (vF A.f) := h.hp.cell 0
theorem WW.p1 (h : WW w A W) : w.cell? ⟨A.p, 1, none⟩ = some (vP A.q) := h.hp.cell 1
theorem WW.p2 (h : WW w A W) : w.cell? ⟨A.p, 2, none⟩ = some (vD A.d) := h.hp.cell 2
theorem WW.p3 (h : WW w A W) : w.cell? ⟨A.p, 3, none⟩ = some (ptr A.s) := h.hp.cell 3
theorem WW.p4 (h : WW w A W) : w.cell? ⟨A.p, 4, none⟩ = some (ptr A.l) := h.hp.cell 4
theorem WW.p5 (h : WW w A W) : w.cell? ⟨A.p, 5, none⟩ = some (.int .i64 W.T) := h.hp.cell 5
theorem WW.fz (h : WW w A W) (i : Nat) : w.frozen? ⟨A.p, i, none⟩ = false := h.hp.frozen i
end
/-- A world that New or Copy did not make: nil, or the zero one. -/
def WInv (w : World) (v : Option Addr) : Prop := v = none ∨ ∃ b, v = some ⟨b, 0, none⟩ ∧ Bk w b 63 #[.pointer none]
theorem WInv.below {w w' : World} {v : Option Addr} (h : WInv w v) (hb : Below w.heap.size w w') : WInv w' v := by
  rcases h with rfl | ⟨b, rfl, h⟩
  · exact .inl rfl
  · exact .inr ⟨b, rfl, h.below hb⟩
/-- A world, in memory that was made since w0. -/
structure WSt (w0 w : World) (A : Ad) (W : Wd) : Prop where
  f : WW w A W
  bel : Below w0.heap.size w0 w
  lo : ∀ g, WFoot w A g → w0.heap.size ≤ g
section
variable {w0 w w' : World} {A : Ad} {W U : Wd}
theorem WSt.step (h : WSt w0 w A W) (q : WStep A w w') (hf : WW w' A U) : WSt w0 w' A U :=
  ⟨hf, h.bel.trans (q.k.below h.bel.size h.lo), fun g hg => by rcases q.g g hg with x | x; exact h.lo g x; exact Nat.le_trans h.bel.size x⟩
theorem WSt.quiet (h : WSt w0 w A W) (q : Below w.heap.size w w') : WSt w0 w' A W := h.step (h.f.quiet q) (h.f.below q).1
end
end Go.Proofs.YtpinmiplefidpaaGreatDoor
