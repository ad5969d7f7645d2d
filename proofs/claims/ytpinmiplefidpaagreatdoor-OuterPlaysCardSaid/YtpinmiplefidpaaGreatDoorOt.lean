/- The state of a world between calls: each call, told of it; the helpers of the statements; what the listed variables hold. -/
import Derived.Test.YtpinmiplefidpaaGreatDoorOrb
import Derived.Test.YtpinmiplefidpaaGreatDoorOs
import Derived.Test.YtpinmiplefidpaaGreatDoorOl
namespace Go.Proofs.YtpinmiplefidpaaGreatDoor
open Go.RowKit

/-- What the variables that the program reads hold. -/
structure OEnv (w : World) : Prop where
  an : AN.Env w
  lg : LG.EnvL w
theorem OEnv.below {w w' : World} (h : OEnv w) (hb : Below w.heap.size w w') : OEnv w' := ⟨h.an.below hb, h.lg.below hb⟩
section
variable {w0 w w' : World} {A : Ad} {W U : Wd}
/-- A block of another type stays. -/
theorem WStep.keep {g : Nat} {t : TypeId} {cs : Array Value} (h : WStep A w w') (f : WW w A W) (hb : Bk w g t cs) (ht : (t + 1 : Nat) ∉ [63 + 1, 105 + 1, 153 + 1, 210 + 1, 159 + 1, 157 + 1, 163 + 1, 161 + 1, 166 + 1, 3 + 1, 138 + 1, 135 + 1, 70 + 1] := by decide) : Bk w' g t cs :=
  hb.kept h.k (f.off hb ht)
theorem acq_s (k x K I G E : Int) (h : WSt w0 w A W) (hx : I64 x) (e1 : W.aK k x = K) (e2 : W.aI k x = I) (e3 : W.aG k x = G) (e4 : W.aE k x = E) : Calls Tryz.prog 16 #[ptr A.b, .int .i64 k, .int .i64 x] w fun e w' =>
    e = .returned (.tuple #[.agg #[.int .i64 K, .int .i64 I, .int .u32 G], .int .i64 E]) ∧ Hid (WSt w0 w' A (W.acq k x)) ∧ Hid (WStep A w w') := by
  refine (wacq_ok A W k x w h.f hx).mono ?_
  rintro e w' ⟨rfl, h1, h2⟩
  exact ⟨by rw [e1, e2, e3, e4], h.step h2 h1, h2⟩
theorem rel_s (k i g y R E : Int) (he : OEnv w0) (h : WSt w0 w A W) (hr : RgO k i g) (hy : I64 y) (e1 : W.lA k i g y = R) (e2 : W.lE k i g y = E) : Calls Tryz.prog 18 #[ptr A.b, .agg #[.int .i64 k, .int .i64 i, .int .u32 g], .int .i64 y] w fun e w' =>
    e = .returned (.tuple #[.int .i64 R, .int .i64 E]) ∧ Hid (WSt w0 w' A (W.rel k i g y)) ∧ Hid (WStep A w w') := by
  refine (wrel_ok A W k i g y w h.f (he.below h.bel).lg hr hy).mono ?_
  rintro e w' ⟨rfl, h1, h2⟩
  exact ⟨by rw [e1, e2], h.step h2 h1, h2⟩
theorem ren_s (k i g x E : Int) (h : WSt w0 w A W) (hr : RgO k i g) (e1 : W.nE k i g x = E) : Calls Tryz.prog 20 #[ptr A.b, .agg #[.int .i64 k, .int .i64 i, .int .u32 g], .int .i64 x] w fun e w' =>
    e = .returned (.int .i64 E) ∧ Hid (WSt w0 w' A (W.ren k i g x)) ∧ Hid (WStep A w w') := by
  refine (wrenew_ok A W k i g x w h.f hr).mono ?_
  rintro e w' ⟨rfl, h1, h2⟩
  exact ⟨by rw [e1], h.step h2 h1, h2⟩
theorem tick_s (x E : Int) (h : WSt w0 w A W) (e1 : W.tE x = E) : Calls Tryz.prog 22 #[ptr A.b, .int .i64 x] w fun e w' =>
    e = .returned (.int .i64 E) ∧ Hid (WSt w0 w' A (W.tick x)) ∧ Hid (WStep A w w') := by
  refine (wtick_ok A W x w h.f).mono ?_
  rintro e w' ⟨rfl, h1, h2⟩
  exact ⟨by rw [e1], h.step h2 h1, h2⟩
theorem answer_s (s : ByteArray) (E : Int) (he : OEnv w0) (h : WSt w0 w A W) (hs : s.size ≤ 140737488351232) (e1 : W.sE s.data.toList = E) : Calls Tryz.prog 24 #[ptr A.b, .string s] w fun e w' =>
    e = .returned (.int .i64 E) ∧ Hid (WSt w0 w' A (W.said s.data.toList)) ∧ Hid (WStep A w w') := by
  refine (wanswer_ok A W s w (he.below h.bel).an h.f hs).mono ?_
  rintro e w' ⟨rfl, h1, h2⟩
  exact ⟨by rw [e1], h.step h2 h1, h2⟩
theorem until_s (k i g N E : Int) (h : WSt w0 w A W) (hr : RgO k i g) (e1 : W.til k i g = N) (e2 : W.uE k i g = E) : Calls Tryz.prog 28 #[ptr A.b, .agg #[.int .i64 k, .int .i64 i, .int .u32 g]] w fun e w' =>
    e = .returned (.tuple #[.int .i64 N, .int .i64 E]) ∧ Hid (WSt w0 w' A W) ∧ Hid (Below w.heap.size w w') := by
  refine (wuntil_ok A W k i g w h.f hr).mono ?_
  rintro e w' ⟨rfl, h1⟩
  exact ⟨by rw [e1, e2], h.quiet h1, h1⟩
theorem has_s (k i g : Int) (r : Bool) (h : WSt w0 w A W) (e1 : r = true ↔ W.Here k i g) : Calls Tryz.prog 30 #[ptr A.b, .agg #[.int .i64 k, .int .i64 i, .int .u32 g]] w fun e w' =>
    e = .returned (.bool r) ∧ Hid (WSt w0 w' A W) ∧ Hid (Below w.heap.size w w') := by
  refine (whas_ok A W k i g r w h.f e1).mono ?_
  rintro e w' ⟨rfl, h1⟩
  exact ⟨rfl, h.quiet h1, h1⟩
theorem now_s (T : Int) (h : WSt w0 w A W) (e1 : W.T = T) : Calls Tryz.prog 32 #[ptr A.b] w fun e w' => e = .returned (.int .i64 T) ∧ w = w' := by
  refine (wnow_ok A W w h.f).mono ?_
  rintro e w' ⟨rfl, h1⟩
  exact ⟨by rw [e1], h1⟩
/-- A slice that owns its row, of resources. -/
def RowO (w : World) (v : Value) (l : List Ro) : Prop := ∃ base, w.ownsRow base 25 3 v l.length (ocls l)
theorem RowO.rd {v : Value} {l : List Ro} (h : RowO w v l) : RdO w v l := by obtain ⟨_, h⟩ := h; exact RdO.of_own h
theorem RowO.below {v : Value} {l : List Ro} (h : RowO w v l) (q : Below w.heap.size w w') : RowO w' v l := by obtain ⟨_, h⟩ := h; exact ⟨_, own_below h q⟩
theorem RowO.step {v : Value} {l : List Ro} (h : RowO w v l) (f : WW w A W) (q : WStep A w w') : RowO w' v l := by
  obtain ⟨base, h⟩ := h
  refine ⟨base, own_same h fun g hg => ?_⟩
  rcases h.2 with ⟨rfl, _⟩ | ⟨g', cap, cur, rfl, _, h2, _⟩
  · cases hg
  · obtain rfl : g' = g := by simpa [Value.ownBlock] using hg
    have hb : Bk w g' 25 cur := h2
    exact q.k.block g' hb.lt (f.off hb)
theorem all_s (l : List Ro) (h : WSt w0 w A W) (e : W.all = l) : Calls Tryz.prog 35 #[ptr A.b] w fun e w' =>
    ∃ p c, e = .returned (.slice p l.length c) ∧ Hid (RowO w' (.slice p l.length c) l) ∧ Hid (WSt w0 w' A W) ∧ Hid (Below w.heap.size w w') := by
  refine (wall_ok A W w h.f).mono ?_
  rintro e' w' ⟨p, c, rfl, h1, h2⟩
  subst e
  exact ⟨p, c, rfl, ⟨_, h1⟩, h.quiet h2, h2⟩
theorem ledger_s (l : List LG.Att) (h : WSt w0 w A W) (e : W.B = l) : Calls Tryz.prog 37 #[ptr A.b] w fun e w' =>
    ∃ b bk, e = .returned (ptr b) ∧ Hid (LG.LedW w' b bk w.heap.size l) ∧ Hid (WSt w0 w' A W) ∧ Hid (Below w.heap.size w w') := by
  refine (wledger_ok A W w h.f).mono ?_
  rintro e' w' ⟨b, bk, rfl, h1, h2, h3⟩
  subst e
  exact ⟨b, bk, rfl, h2, h.quiet h3, h3⟩
end

/-! ### the helper file, the examples -/
theorem lfile_ok (i g : Int) (w : World) : Calls Tryz.prog 49 #[.int .i64 i, .int .u32 g] w fun e w' => e = .returned (.agg #[.int .i64 1, .int .i64 i, .int .u32 g]) ∧ Below w.heap.size w w' := by
  go_enter Tryz.func49, Tryz.ntmps49
  go_wp2
  refine bodyPost_ret (v := .agg #[.int .i64 1, .int .i64 i, .int .u32 g]) (by simp [results, Tryz.results49, go_sem]) rfl ⟨rfl, ?_⟩
  exact (Below.refl _ _).alloc (Nat.le_refl _) _
def X0 : Wd := wfresh 1
def X1 : Wd := X0.said [108, 111, 111, 102, 111]
def X2 : Wd := X1.acq 1 5
def X3 : Wd := X2.acq 1 5
def X4 : Wd := X3.acq 2 100
def X5 : Wd := X4.tick 7
def X6 : Wd := X5.rel 1 0 1 1
def X7 : Wd := X6.rel 1 0 1 1
def X8 : Wd := X7.rel 1 0 1 1
def X9 : Wd := X8.acq 1 5
theorem x1 : X0.sE [108, 111, 111, 102, 111] = 0 := by decide +kernel
theorem x2 : X1.aE 1 5 = 15 ∧ X1.aK 1 5 = 0 ∧ X1.aI 1 5 = 0 ∧ X1.aG 1 5 = 0 := by decide +kernel
theorem x3 : X2.aE 1 5 = 0 ∧ X2.aK 1 5 = 1 ∧ X2.aI 1 5 = 0 ∧ X2.aG 1 5 = 1 := by decide +kernel
theorem x4 : X3.aE 2 100 = 0 ∧ X3.aK 2 100 = 2 ∧ X3.aI 2 100 = 0 ∧ X3.aG 2 100 = 1 := by decide +kernel
theorem x5 : X4.tE 7 = 0 := by decide +kernel
theorem x6 : X5.lE 1 0 1 1 = 0 ∧ X5.lA 1 0 1 1 = 3 := by decide +kernel
theorem x7 : X6.lE 1 0 1 1 = 0 ∧ X6.lA 1 0 1 1 = 1 := by decide +kernel
theorem x8 : X7.lE 1 0 1 1 = 5 ∧ X7.lA 1 0 1 1 = 0 := by decide +kernel
theorem x9 : X8.aE 1 5 = 0 ∧ X8.aK 1 5 = 1 ∧ X8.aI 1 5 = 0 ∧ X8.aG 1 5 = 2 := by decide +kernel
theorem x10 : X9.B.length = 2 ∧ X9.T = 7 := by decide +kernel
end Go.Proofs.YtpinmiplefidpaaGreatDoor
