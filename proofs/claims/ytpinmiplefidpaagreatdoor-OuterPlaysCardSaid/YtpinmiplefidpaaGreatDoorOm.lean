/- Plain mathematics of the outer world: its files, buffers, leases, answers, ledger and time; what each call says, and what it makes of a world. -/
import Derived.Test.YtpinmiplefidpaaGreatDoorMF
import Derived.Test.YtpinmiplefidpaaGreatDoorMU
import Derived.Test.YtpinmiplefidpaaGreatDoorMY
import Derived.Test.YtpinmiplefidpaaGreatDoorMA
import Derived.Test.YtpinmiplefidpaaGreatDoorMH
namespace Go.Proofs.YtpinmiplefidpaaGreatDoor

/-- A world. -/
structure Wd where
  F : FD.Fb
  P : BF.Po
  D : LS.Dk
  L : List Int
  B : List LG.Att
  T : Int
structure Wd.Ok (W : Wd) : Prop where
  F : W.F.Ok
  nF : W.F.t.n = 64
  P : W.P.Ok
  nP : W.P.t.n = 64
  D : W.D.Ok
  nD : W.D.t.n = 64
  L : AN.Src W.L
  B : LG.AllOk W.B
  lB : W.B.length ≤ 10000
  T0 : 0 ≤ W.T
  T1 : W.T ≤ 1099511627776
  TB : ∀ a ∈ W.B, a.t ≤ W.T
/-- A resource that is possible. -/
def Poss (k i g : Int) : Prop := 1 ≤ k ∧ k ≤ 3 ∧ 0 ≤ i ∧ i < 64 ∧ 1 ≤ g
instance (k i g : Int) : Decidable (Poss k i g) := inferInstanceAs (Decidable (_ ∧ _))
def Wd.all (W : Wd) : List Ro := W.F.all ++ W.P.all ++ W.D.all
/-- A resource that is there. -/
def Wd.Here (W : Wd) (k i g : Int) : Prop := W.F.chk k i g = 0 ∨ W.P.chk k i g = 0 ∨ W.D.chk k i g = 0
instance (W : Wd) (k i g : Int) : Decidable (W.Here k i g) := inferInstanceAs (Decidable (_ ∨ _))
def wfresh (g : Nat) : Wd := ⟨FD.ffresh 64 g, BF.pfresh 64 1048576 g, LS.dfresh 64 g, [], [], 0⟩
/-- The next answer. -/
def Wd.h (W : Wd) : Int := W.L.headD 1

/-! ### Acquire -/
/-- The error with which it cannot be acquired. -/
def Wd.gE (W : Wd) (k x : Int) : Int := if k = 1 then (if 0 ≤ x ∧ x ≤ 65535 then W.F.oE else 2) else if k = 2 then W.P.can x else if k = 3 then W.D.gE x W.T else 2
def Wd.aE (W : Wd) (k x : Int) : Int := if W.gE k x = 0 then (if W.h = 2 then 15 else if W.h = 3 then 14 else 0) else W.gE k x
def Wd.aK (W : Wd) (k x : Int) : Int := if W.aE k x = 0 then (if k = 1 then W.F.oK else if k = 2 then W.P.pK x else W.D.gK x W.T) else 0
def Wd.aI (W : Wd) (k x : Int) : Int := if W.aE k x = 0 then (if k = 1 then W.F.oI else if k = 2 then W.P.pI x else W.D.gI x W.T) else 0
def Wd.aG (W : Wd) (k x : Int) : Int := if W.aE k x = 0 then (if k = 1 then W.F.oG else if k = 2 then W.P.pG x else W.D.gG x W.T) else 0
/-- An answer is used up. -/
def Wd.next (W : Wd) : Wd := { W with L := W.L.tail }
def Wd.got (W : Wd) (k x : Int) : Wd := if k = 1 then { W with F := W.F.opn x.toNat } else if k = 2 then { W with P := W.P.pin x } else { W with D := W.D.grant x W.T }
def Wd.acq (W : Wd) (k x : Int) : Wd := if W.gE k x = 0 then (if W.aE k x = 0 then W.next.got k x else W.next) else W

/-! ### Release -/
def Wd.lE (W : Wd) (k i g y : Int) : Int := if ¬ (Poss k i g ∧ 1 ≤ y ∧ y ≤ 3) then 2 else if ¬ W.Here k i g then 5 else if 10000 ≤ W.B.length then 4 else 0
def Wd.lA (W : Wd) (k i g y : Int) : Int := if W.lE k i g y = 0 then W.h else 0
/-- The attempt. -/
def Wd.att (W : Wd) (k i g y : Int) : LG.Att := ⟨W.T, k, i, g, y, W.h⟩
def Wd.back (W : Wd) (k i g : Int) : Wd := { W with F := W.F.closed k i g, P := W.P.unpin k i g, D := W.D.ret k i g }
def Wd.tried (W : Wd) (k i g y : Int) : Wd := { W with L := W.L.tail, B := W.B ++ [W.att k i g y] }
def Wd.rel (W : Wd) (k i g y : Int) : Wd := if W.lE k i g y = 0 then (if W.h = 1 then (W.tried k i g y).back k i g else W.tried k i g y) else W

/-! ### Renew, Until, Tick, Answer -/
/-- The error if a resource is no lease that is there. -/
def Wd.hE (W : Wd) (k i g : Int) (right : Bool) : Int := if ¬ (Poss k i g ∧ right = true) then 2 else if k ≠ 3 then 8 else if ¬ W.Here k i g then 5 else 0
def Wd.nE (W : Wd) (k i g x : Int) : Int := if W.hE k i g (decide (LS.IsSpan x)) = 0 then W.D.rE k i g x W.T else W.hE k i g (decide (LS.IsSpan x))
def Wd.ren (W : Wd) (k i g x : Int) : Wd := { W with D := W.D.renew k i g x W.T }
def Wd.uE (W : Wd) (k i g : Int) : Int := W.hE k i g true
def Wd.til (W : Wd) (k i g : Int) : Int := W.D.til k i g
def Wd.tE (W : Wd) (x : Int) : Int := if LS.IsSpan x then (if 1099511627776 < W.T + x then 17 else 0) else 2
def Wd.tick (W : Wd) (x : Int) : Wd := if W.tE x = 0 then { W with T := W.T + x } else W
def Wd.sE (W : Wd) (bs : List UInt8) : Int := AN.aE W.L bs
def Wd.said (W : Wd) (bs : List UInt8) : Wd := { W with L := AN.aL W.L bs }

/-! ### what is there -/
theorem mem_files {F : FD.Fb} (h : F.Ok) {k i g : Int} : (⟨k, i, g⟩ : Ro) ∈ F.all ↔ F.chk k i g = 0 := by
  unfold FD.Fb.all
  rw [List.mem_map]
  constructor
  · rintro ⟨⟨j, q⟩, h1, h2⟩
    obtain ⟨h3, h4, h5⟩ := Tb.mem_now.1 h1
    injection h2 with e1 e2 e3
    subst e1 e2 e3
    rw [← h5]
    exact h.chk_held h3 h4
  · intro h1
    obtain ⟨rfl, j, rfl, h2, h3, h4⟩ := FD.Fb.chk_open h1
    exact ⟨(j, F.t.g j), Tb.mem_now.2 ⟨h2, h3, rfl⟩, by rw [← h4]; rfl⟩
theorem mem_bufs {P : BF.Po} {k i g : Int} : (⟨k, i, g⟩ : Ro) ∈ P.all ↔ P.chk k i g = 0 := by
  unfold BF.Po.all
  rw [List.mem_map]
  constructor
  · rintro ⟨⟨j, q⟩, h1, h2⟩
    obtain ⟨h3, h4, h5⟩ := Tb.mem_now.1 h1
    injection h2 with e1 e2 e3
    subst e1 e2 e3
    rw [← h5]
    exact BF.Po.chk_held h3 h4
  · intro h1
    obtain ⟨rfl, j, rfl, h2, h3, h4⟩ := BF.Po.chk_pinned h1
    exact ⟨(j, P.t.g j), Tb.mem_now.2 ⟨h2, h3, rfl⟩, by rw [← h4]; rfl⟩
theorem mem_leases {D : LS.Dk} (h : D.Ok) {k i g : Int} : (⟨k, i, g⟩ : Ro) ∈ D.all ↔ D.chk k i g = 0 := by
  unfold LS.Dk.all
  rw [List.mem_map]
  constructor
  · rintro ⟨⟨j, q⟩, h1, h2⟩
    obtain ⟨h3, h4, h5⟩ := Tb.mem_now.1 h1
    injection h2 with e1 e2 e3
    subst e1 e2 e3
    rw [← h5]
    exact h.chk_held h3 h4
  · intro h1
    obtain ⟨rfl, j, rfl, h2, h3, h4⟩ := LS.Dk.chk_is h1
    exact ⟨(j, D.t.g j), Tb.mem_now.2 ⟨h2, h3, rfl⟩, by rw [h4]; rfl⟩
theorem Wd.Ok.mem {W : Wd} (h : W.Ok) {k i g : Int} : (⟨k, i, g⟩ : Ro) ∈ W.all ↔ W.Here k i g := by
  unfold Wd.all Wd.Here
  rw [List.mem_append, List.mem_append, mem_files h.F, mem_bufs, mem_leases h.D, or_assoc]
theorem Wd.Ok.file {W : Wd} (_h : W.Ok) {k i g : Int} (hk : k = 1) : W.Here k i g ↔ W.F.chk k i g = 0 := by
  constructor
  · rintro (e | e | e)
    · exact e
    · exact absurd (BF.Po.chk_pinned e).1 (by omega)
    · exact absurd (LS.Dk.chk_is e).1 (by omega)
  · exact fun e => .inl e
theorem Wd.Ok.buffer {W : Wd} (_h : W.Ok) {k i g : Int} (hk : k = 2) : W.Here k i g ↔ W.P.chk k i g = 0 := by
  constructor
  · rintro (e | e | e)
    · exact absurd (FD.Fb.chk_open e).1 (by omega)
    · exact e
    · exact absurd (LS.Dk.chk_is e).1 (by omega)
  · exact fun e => .inr (.inl e)
theorem Wd.Ok.lease {W : Wd} (_h : W.Ok) {k i g : Int} (hk : k = 3) : W.Here k i g ↔ W.D.chk k i g = 0 := by
  constructor
  · rintro (e | e | e)
    · exact absurd (FD.Fb.chk_open e).1 (by omega)
    · exact absurd (BF.Po.chk_pinned e).1 (by omega)
    · exact e
  · exact fun e => .inr (.inr e)
theorem Wd.Ok.kind {W : Wd} (_h : W.Ok) {k i g : Int} (e : W.Here k i g) : 1 ≤ k ∧ k ≤ 3 := by
  rcases e with e | e | e
  · have := (FD.Fb.chk_open e).1; omega
  · have := (BF.Po.chk_pinned e).1; omega
  · have := (LS.Dk.chk_is e).1; omega
theorem Wd.Ok.poss {W : Wd} (h : W.Ok) {k i g : Int} (e : W.Here k i g) : Poss k i g := by
  have h1 := h.nF
  have h2 := h.nP
  have h3 := h.nD
  rcases e with e | e | e
  · obtain ⟨rfl, j, rfl, q1, q2, q3⟩ := FD.Fb.chk_open e
    have := h.F.t.g1 j q1
    exact ⟨by omega, by omega, by omega, by omega, by omega⟩
  · obtain ⟨rfl, j, rfl, q1, q2, q3⟩ := BF.Po.chk_pinned e
    have := h.P.t.g1 j q1
    exact ⟨by omega, by omega, by omega, by omega, by omega⟩
  · obtain ⟨rfl, j, rfl, q1, q2, q3⟩ := LS.Dk.chk_is e
    have := h.D.t.g1 j q1
    exact ⟨by omega, by omega, by omega, by omega, by omega⟩
theorem Wd.Ok.gen {W : Wd} (h : W.Ok) {k i g : Int} (e : W.Here k i g) : g ≤ 4294967295 := by
  rcases e with e | e | e
  · obtain ⟨_, j, _, q1, q2, q3⟩ := FD.Fb.chk_open e
    have := h.F.t.gm j; omega
  · obtain ⟨_, j, _, q1, q2, q3⟩ := BF.Po.chk_pinned e
    have := h.P.t.gm j; omega
  · obtain ⟨_, j, _, q1, q2, q3⟩ := LS.Dk.chk_is e
    have := h.D.t.gm j; omega
theorem Wd.all_len (W : Wd) : W.all.length = W.F.t.held.length + W.P.t.held.length + W.D.t.held.length := by
  unfold Wd.all
  rw [List.length_append, List.length_append, FD.Fb.all_len, BF.Po.all_len, LS.Dk.all_len]
theorem Wd.Ok.all_le {W : Wd} (h : W.Ok) : W.all.length ≤ 192 := by
  rw [W.all_len]
  have := h.F.held_len
  have := h.P.held_len
  have := h.D.held_len
  omega
theorem Wd.Ok.ans {W : Wd} (h : W.Ok) : 1 ≤ W.h ∧ W.h ≤ 3 := AN.head_ans h.L

/-! ### all worlds stay possible -/
theorem wfresh_ok {g : Nat} (h1 : 1 ≤ g) (h2 : g ≤ 4294967295) : (wfresh g).Ok :=
  ⟨FD.ffresh_ok (by omega) (by omega) h1 h2, rfl, BF.pfresh_ok (by omega) (by omega) h1 h2 (by omega), rfl, LS.dfresh_ok (by omega) (by omega) h1 h2, rfl, AN.src_nil, LG.allOk_nil, Nat.zero_le _, Int.le_refl _, by show (0 : Int) ≤ _; omega, fun a ha => by cases ha⟩
theorem Wd.Ok.next {W : Wd} (h : W.Ok) : W.next.Ok := ⟨h.F, h.nF, h.P, h.nP, h.D, h.nD, AN.src_tail h.L, h.B, h.lB, h.T0, h.T1, h.TB⟩
theorem Wd.Ok.got {W : Wd} (h : W.Ok) {k x : Int} (hx : k = 1 → x ≤ 65535) : (W.got k x).Ok := by
  unfold Wd.got
  split
  · rename_i e
    exact ⟨h.F.opn (by have := hx e; omega), by simp only [FD.Fb.opn_n]; exact h.nF, h.P, h.nP, h.D, h.nD, h.L, h.B, h.lB, h.T0, h.T1, h.TB⟩
  · split
    · exact ⟨h.F, h.nF, h.P.pin x, by simp only [BF.Po.pin_n]; exact h.nP, h.D, h.nD, h.L, h.B, h.lB, h.T0, h.T1, h.TB⟩
    · exact ⟨h.F, h.nF, h.P, h.nP, h.D.grant x _, by simp only [LS.Dk.grant_n]; exact h.nD, h.L, h.B, h.lB, h.T0, h.T1, h.TB⟩
theorem Wd.gE_file {W : Wd} {x : Int} (h : W.gE 1 x = 0) : 0 ≤ x ∧ x ≤ 65535 ∧ W.F.oE = 0 := by
  unfold Wd.gE at h
  rw [if_pos rfl] at h
  split at h
  · rename_i e; exact ⟨e.1, e.2, h⟩
  · omega
theorem Wd.Ok.acq {W : Wd} (h : W.Ok) (k x : Int) : (W.acq k x).Ok := by
  unfold Wd.acq
  split
  · rename_i e
    split
    · exact h.next.got fun hk => by subst hk; exact (Wd.gE_file e).2.1
    · exact h.next
  · exact h
theorem Wd.lE_zero {W : Wd} {k i g y : Int} (h : W.lE k i g y = 0) : Poss k i g ∧ 1 ≤ y ∧ y ≤ 3 ∧ W.Here k i g ∧ W.B.length < 10000 := by
  unfold Wd.lE at h
  split at h
  · omega
  · rename_i h1
    split at h
    · omega
    · rename_i h2
      split at h
      · omega
      · have h1' := Classical.not_not.1 h1
        exact ⟨h1'.1, h1'.2.1, h1'.2.2, Classical.not_not.1 h2, by omega⟩
theorem Wd.Ok.att_ok {W : Wd} (h : W.Ok) {k i g y : Int} (hp : Poss k i g) (hg : g ≤ 4294967295) (hy : 1 ≤ y ∧ y ≤ 3) : (W.att k i g y).Ok := by
  obtain ⟨p1, p2, p3, p4, p5⟩ := hp
  have := h.ans
  exact ⟨h.T0, h.T1, p1, p2, p3, p4, p5, hg, hy.1, hy.2, this.1, this.2⟩
theorem Wd.Ok.tried {W : Wd} (h : W.Ok) {k i g y : Int} (e : W.lE k i g y = 0) : (W.tried k i g y).Ok := by
  obtain ⟨h1, h2, h3, h4, h5⟩ := Wd.lE_zero e
  have ha := h.att_ok h1 (h.gen h4) ⟨h2, h3⟩
  refine ⟨h.F, h.nF, h.P, h.nP, h.D, h.nD, AN.src_tail h.L, LG.allOk_append.2 ⟨h.B, fun a hm => by rw [List.mem_singleton.1 hm]; exact ha⟩, by simp only [Wd.tried, List.length_append, List.length_singleton]; omega, h.T0, h.T1, fun a hm => ?_⟩
  rcases List.mem_append.1 hm with hm | hm
  · exact h.TB a hm
  · rw [List.mem_singleton.1 hm]; exact Int.le_refl _
theorem Wd.Ok.back {W : Wd} (h : W.Ok) (k i g : Int) : (W.back k i g).Ok :=
  ⟨h.F.closed _ _ _, by simp only [Wd.back, FD.Fb.closed_n]; exact h.nF, h.P.unpin _ _ _, by simp only [Wd.back, BF.Po.unpin_n]; exact h.nP, h.D.ret _ _ _, by simp only [Wd.back, LS.Dk.ret_n]; exact h.nD, h.L, h.B, h.lB, h.T0, h.T1, h.TB⟩
theorem Wd.Ok.rel {W : Wd} (h : W.Ok) (k i g y : Int) : (W.rel k i g y).Ok := by
  unfold Wd.rel
  split
  · rename_i e
    split
    · exact (h.tried e).back _ _ _
    · exact h.tried e
  · exact h
theorem Wd.Ok.ren {W : Wd} (h : W.Ok) (k i g x : Int) : (W.ren k i g x).Ok :=
  ⟨h.F, h.nF, h.P, h.nP, h.D.renew _ _ _ _ _, by simp only [Wd.ren, LS.Dk.renew_n]; exact h.nD, h.L, h.B, h.lB, h.T0, h.T1, h.TB⟩
theorem Wd.tE_zero {W : Wd} {x : Int} (h : W.tE x = 0) : LS.IsSpan x ∧ W.T + x ≤ 1099511627776 := by
  unfold Wd.tE at h
  split at h
  · rename_i e
    split at h
    · omega
    · exact ⟨e, by omega⟩
  · omega
theorem Wd.Ok.tick {W : Wd} (h : W.Ok) (x : Int) : (W.tick x).Ok := by
  unfold Wd.tick
  split
  · rename_i e
    obtain ⟨⟨e1, e2⟩, e3⟩ := Wd.tE_zero e
    have := h.T0
    exact ⟨h.F, h.nF, h.P, h.nP, h.D, h.nD, h.L, h.B, h.lB, by show 0 ≤ W.T + x; omega, e3, fun a ha => by have := h.TB a ha; show a.t ≤ W.T + x; omega⟩
  · exact h
theorem Wd.Ok.said {W : Wd} (h : W.Ok) (bs : List UInt8) : (W.said bs).Ok := ⟨h.F, h.nF, h.P, h.nP, h.D, h.nD, AN.src_add h.L bs, h.B, h.lB, h.T0, h.T1, h.TB⟩
end Go.Proofs.YtpinmiplefidpaaGreatDoor
