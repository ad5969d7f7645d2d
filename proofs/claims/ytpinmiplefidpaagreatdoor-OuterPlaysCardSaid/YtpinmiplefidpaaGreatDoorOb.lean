/- The contracts of the methods that the tables of a world have in common: acquire, giving, twin, of files, buffers and desks. -/
import Derived.Test.YtpinmiplefidpaaGreatDoorOa
import Derived.BigQuiet
import Derived.Laws.ResultCell
namespace Go.Proofs.YtpinmiplefidpaaGreatDoor
open Go.RowKit

/-- Open, for any number. -/
def FD.Fb.opE (F : FD.Fb) (x : Int) : Int := if 0 ≤ x ∧ x ≤ 65535 then F.oE else 2
def FD.Fb.opK (F : FD.Fb) (x : Int) : Int := if 0 ≤ x ∧ x ≤ 65535 then F.oK else 0
def FD.Fb.opI (F : FD.Fb) (x : Int) : Int := if 0 ≤ x ∧ x ≤ 65535 then F.oI else 0
def FD.Fb.opG (F : FD.Fb) (x : Int) : Int := if 0 ≤ x ∧ x ≤ 65535 then F.oG else 0
def FD.Fb.op (F : FD.Fb) (x : Int) : FD.Fb := if 0 ≤ x ∧ x ≤ 65535 then F.opn x.toNat else F
theorem open_any (b k m : Nat) (F : FD.Fb) (x : Int) (hx : I64 x) (w : World) (h : FD.FW w b k m F) : Calls Tryz.prog 185 #[.pointer (some ⟨b, 0, none⟩), .int .i64 x] w fun e w' =>
    e = .returned (.tuple #[.agg #[.int .i64 (F.opK x), .int .i64 (F.opI x), .int .u32 (F.opG x)], .int .i64 (F.opE x)]) ∧ FD.FW w' b k m (F.op x) ∧ Kept (FD.FFoot b k m) w w' := by
  unfold FD.Fb.opE FD.Fb.opK FD.Fb.opI FD.Fb.opG FD.Fb.op
  by_cases hr : 0 ≤ x ∧ x ≤ 65535
  · simp only [if_pos hr]
    obtain ⟨y, rfl⟩ : ∃ y : Nat, x = y := ⟨x.toNat, by omega⟩
    exact FD.fopen_ok b k m y F (by omega) w h
  · simp only [if_neg hr]
    refine (FD.fopen_arg b k m F x hx (by omega) w h).mono ?_
    rintro e w' ⟨rfl, h1⟩
    exact ⟨rfl, h.below h1, (Kept.of_below h1)⟩

theorem BF.pin_k (b s k : Nat) (P : BF.Po) (x : Int) (w : World) (h : BF.PW w b s k P) : Calls Tryz.prog 203 #[.pointer (some ⟨b, 0, none⟩), .int .i64 x] w fun e w' =>
    e = .returned (.tuple #[.agg #[.int .i64 (P.pK x), .int .i64 (P.pI x), .int .u32 (P.pG x)], .int .i64 (P.can x)]) ∧ BF.PW w' b s k (P.pin x) ∧ Kept (BF.PFoot b s k) w w' := by
  refine (BF.ppin_any b s k P x w h).mono ?_
  rintro e w' ⟨rfl, h1, h2⟩
  exact ⟨rfl, h1, h2.mono fun g _ hg => by rcases hg with rfl | rfl; exact .inr (.inl rfl); exact .inr (.inr rfl)⟩

/-! ### files -/
set_option maxRecDepth 100000 in
set_option maxHeartbeats 1000000 in
theorem acq_files (b k m : Nat) (F : FD.Fb) (x now : Int) (hx : I64 x) (w : World) (h : FD.FW w b k m F) : Calls Tryz.prog 182 #[.agg #[.pointer (some ⟨b, 0, none⟩)], .int .i64 x, .int .i64 now] w fun e w' =>
    e = .returned (.tuple #[.agg #[.int .i64 (F.opK x), .int .i64 (F.opI x), .int .u32 (F.opG x)], .int .i64 (F.opE x)]) ∧ FD.FW w' b k m (F.op x) ∧ Kept (FD.FFoot b k m) w w' := by
  have B0 := (bel_new w (.cells #[.pointer (some ⟨b, 0, none⟩)] 94)).trans ((bel_new (w.alloc (.cells #[.pointer (some ⟨b, 0, none⟩)] 94)) (.cells #[.int .i64 0, .int .i64 0, .int .u32 0] 25)).mono (by simp))
  have B1 : Bk ((w.alloc (.cells #[.pointer (some ⟨b, 0, none⟩)] 94)).alloc (.cells #[.int .i64 0, .int .i64 0, .int .u32 0] 25)) (w.heap.size + 1) 25 #[.int .i64 0, .int .i64 0, .int .u32 0] := by
    have := Bk.new (w.alloc (.cells #[.pointer (some ⟨b, 0, none⟩)] 94)) 25 #[.int .i64 0, .int .i64 0, .int .u32 0]
    rwa [World.size_alloc] at this
  have HB0 := Lib.hid B0
  have HB1 := Lib.hid B1
  have HLT : Hid (∀ g, FD.FFoot b k m g → g < w.heap.size) := fun g hg => h.foot_lt hg
  have H := Lib.hid (h.below B0)
  have HX := Lib.hid hx
  clear h B0 B1 hx
  go_enter Tryz.func182, Tryz.ntmps182
  go_wp2_with fail
  refine (open_any b k m F x HX.out _ H.out).mono ?_
  rintro e w1 ⟨rfl, h1, h2⟩
  have n1 := HB1.out.kept h2 (fun x => by have := HLT.out _ x; omega)
  have e0 := n1.cell 0
  have e1 := n1.cell 1
  have e2 := n1.cell 2
  have f0 := n1.frozen 0
  have f1 := n1.frozen 1
  have f2 := n1.frozen 2
  have H1 := Lib.hid h1
  have H2 := Lib.hid h2
  have N1 := Lib.hid n1
  clear h1 h2 n1
  generalize hK : ((F.opK x) : Int) = K at *
  generalize hI : ((F.opI x) : Int) = I at *
  generalize hG : ((F.opG x) : Int) = G at *
  generalize hE : ((F.opE x) : Int) = E at *
  go_wp2
  have t := BF.three_put N1.out (.int .i64 K) (.int .i64 I) (.int .u32 G)
  obtain ⟨x0, x1, x2, _⟩ := BF.laid3 t
  have q0 : w.heap.size < w1.heap.size := by have := N1.out.lt; omega
  have hk : Kept (FD.FFoot b k m) w (((w1.setCell ⟨w.heap.size + 1, 0, none⟩ (.int .i64 K)).setCell ⟨w.heap.size + 1, 1, none⟩ (.int .i64 I)).setCell ⟨w.heap.size + 1, 2, none⟩ (.int .u32 G)) := by
    have q : Kept (FD.FFoot b k m) w w1 := (Kept.of_below HB0.out).trans H2.out
    exact ((q.put (p := ⟨w.heap.size + 1, 0, none⟩) (.inl (Nat.le_succ _)) _).put (p := ⟨w.heap.size + 1, 1, none⟩) (.inl (Nat.le_succ _)) _).put (p := ⟨w.heap.size + 1, 2, none⟩) (.inl (Nat.le_succ _)) _
  have q2 : Kept (· = w.heap.size + 1) w1 (((w1.setCell ⟨w.heap.size + 1, 0, none⟩ (.int .i64 K)).setCell ⟨w.heap.size + 1, 1, none⟩ (.int .i64 I)).setCell ⟨w.heap.size + 1, 2, none⟩ (.int .u32 G)) := (((Kept.refl _ w1).put1 0 _).put1 1 _).put1 2 _
  have h3 := H1.out.kept q2 (fun g hg e => by have := HLT.out g hg; omega)
  refine bodyPost_ret (v := .tuple #[.agg #[.int .i64 K, .int .i64 I, .int .u32 G], .int .i64 E]) (by simp [results, Tryz.results182, go_sem, x0, x1, x2]) rfl ⟨by rw [hK, hI, hG, hE], h3, hk⟩

/-! ### buffers -/
set_option maxRecDepth 100000 in
set_option maxHeartbeats 1000000 in
theorem acq_buffers (b s k : Nat) (P : BF.Po) (x now : Int) (w : World) (h : BF.PW w b s k P) : Calls Tryz.prog 200 #[.agg #[.pointer (some ⟨b, 0, none⟩)], .int .i64 x, .int .i64 now] w fun e w' =>
    e = .returned (.tuple #[.agg #[.int .i64 (P.pK x), .int .i64 (P.pI x), .int .u32 (P.pG x)], .int .i64 (P.can x)]) ∧ BF.PW w' b s k (P.pin x) ∧ Kept (BF.PFoot b s k) w w' := by
  have B0 := (bel_new w (.cells #[.pointer (some ⟨b, 0, none⟩)] 96)).trans ((bel_new (w.alloc (.cells #[.pointer (some ⟨b, 0, none⟩)] 96)) (.cells #[.int .i64 0, .int .i64 0, .int .u32 0] 25)).mono (by simp))
  have B1 : Bk ((w.alloc (.cells #[.pointer (some ⟨b, 0, none⟩)] 96)).alloc (.cells #[.int .i64 0, .int .i64 0, .int .u32 0] 25)) (w.heap.size + 1) 25 #[.int .i64 0, .int .i64 0, .int .u32 0] := by
    have := Bk.new (w.alloc (.cells #[.pointer (some ⟨b, 0, none⟩)] 96)) 25 #[.int .i64 0, .int .i64 0, .int .u32 0]
    rwa [World.size_alloc] at this
  have HB0 := Lib.hid B0
  have HB1 := Lib.hid B1
  have HLT : Hid (∀ g, BF.PFoot b s k g → g < w.heap.size) := fun g hg => h.foot_lt hg
  have H := Lib.hid (h.below B0)
  
  clear h B0 B1 
  go_enter Tryz.func200, Tryz.ntmps200
  go_wp2_with fail
  refine (BF.pin_k b s k P x _ H.out).mono ?_
  rintro e w1 ⟨rfl, h1, h2⟩
  have n1 := HB1.out.kept h2 (fun x => by have := HLT.out _ x; omega)
  have e0 := n1.cell 0
  have e1 := n1.cell 1
  have e2 := n1.cell 2
  have f0 := n1.frozen 0
  have f1 := n1.frozen 1
  have f2 := n1.frozen 2
  have H1 := Lib.hid h1
  have H2 := Lib.hid h2
  have N1 := Lib.hid n1
  clear h1 h2 n1
  generalize hK : ((P.pK x) : Int) = K at *
  generalize hI : ((P.pI x) : Int) = I at *
  generalize hG : ((P.pG x) : Int) = G at *
  generalize hE : ((P.can x) : Int) = E at *
  go_wp2
  have t := BF.three_put N1.out (.int .i64 K) (.int .i64 I) (.int .u32 G)
  obtain ⟨x0, x1, x2, _⟩ := BF.laid3 t
  have q0 : w.heap.size < w1.heap.size := by have := N1.out.lt; omega
  have hk : Kept (BF.PFoot b s k) w (((w1.setCell ⟨w.heap.size + 1, 0, none⟩ (.int .i64 K)).setCell ⟨w.heap.size + 1, 1, none⟩ (.int .i64 I)).setCell ⟨w.heap.size + 1, 2, none⟩ (.int .u32 G)) := by
    have q : Kept (BF.PFoot b s k) w w1 := (Kept.of_below HB0.out).trans H2.out
    exact ((q.put (p := ⟨w.heap.size + 1, 0, none⟩) (.inl (Nat.le_succ _)) _).put (p := ⟨w.heap.size + 1, 1, none⟩) (.inl (Nat.le_succ _)) _).put (p := ⟨w.heap.size + 1, 2, none⟩) (.inl (Nat.le_succ _)) _
  have q2 : Kept (· = w.heap.size + 1) w1 (((w1.setCell ⟨w.heap.size + 1, 0, none⟩ (.int .i64 K)).setCell ⟨w.heap.size + 1, 1, none⟩ (.int .i64 I)).setCell ⟨w.heap.size + 1, 2, none⟩ (.int .u32 G)) := (((Kept.refl _ w1).put1 0 _).put1 1 _).put1 2 _
  have h3 := H1.out.kept q2 (fun g hg e => by have := HLT.out g hg; omega)
  refine bodyPost_ret (v := .tuple #[.agg #[.int .i64 K, .int .i64 I, .int .u32 G], .int .i64 E]) (by simp [results, Tryz.results200, go_sem, x0, x1, x2]) rfl ⟨by rw [hK, hI, hG, hE], h3, hk⟩

/-! ### desk -/
set_option maxRecDepth 100000 in
set_option maxHeartbeats 1000000 in
theorem acq_desk (b k a : Nat) (D : LS.Dk) (x now : Int) (w : World) (h : LS.DkW w b k a D) : Calls Tryz.prog 208 #[.agg #[.pointer (some ⟨b, 0, none⟩)], .int .i64 x, .int .i64 now] w fun e w' =>
    e = .returned (.tuple #[.agg #[.int .i64 (D.gK x now), .int .i64 (D.gI x now), .int .u32 (D.gG x now)], .int .i64 (D.gE x now)]) ∧ LS.DkW w' b k a (D.grant x now) ∧ Kept (LS.DFoot b k a) w w' := by
  have B0 := (bel_new w (.cells #[.pointer (some ⟨b, 0, none⟩)] 98)).trans ((bel_new (w.alloc (.cells #[.pointer (some ⟨b, 0, none⟩)] 98)) (.cells #[.int .i64 0, .int .i64 0, .int .u32 0] 25)).mono (by simp))
  have B1 : Bk ((w.alloc (.cells #[.pointer (some ⟨b, 0, none⟩)] 98)).alloc (.cells #[.int .i64 0, .int .i64 0, .int .u32 0] 25)) (w.heap.size + 1) 25 #[.int .i64 0, .int .i64 0, .int .u32 0] := by
    have := Bk.new (w.alloc (.cells #[.pointer (some ⟨b, 0, none⟩)] 98)) 25 #[.int .i64 0, .int .i64 0, .int .u32 0]
    rwa [World.size_alloc] at this
  have HB0 := Lib.hid B0
  have HB1 := Lib.hid B1
  have HLT : Hid (∀ g, LS.DFoot b k a g → g < w.heap.size) := fun g hg => h.foot_lt hg
  have H := Lib.hid (h.below B0)
  
  clear h B0 B1 
  go_enter Tryz.func208, Tryz.ntmps208
  go_wp2_with fail
  refine (LS.dgrant_ok b k a D x now _ H.out).mono ?_
  rintro e w1 ⟨rfl, h1, h2⟩
  have n1 := HB1.out.kept h2 (fun x => by have := HLT.out _ x; omega)
  have e0 := n1.cell 0
  have e1 := n1.cell 1
  have e2 := n1.cell 2
  have f0 := n1.frozen 0
  have f1 := n1.frozen 1
  have f2 := n1.frozen 2
  have H1 := Lib.hid h1
  have H2 := Lib.hid h2
  have N1 := Lib.hid n1
  clear h1 h2 n1
  generalize hK : ((D.gK x now) : Int) = K at *
  generalize hI : ((D.gI x now) : Int) = I at *
  generalize hG : ((D.gG x now) : Int) = G at *
  generalize hE : ((D.gE x now) : Int) = E at *
  go_wp2
  have t := BF.three_put N1.out (.int .i64 K) (.int .i64 I) (.int .u32 G)
  obtain ⟨x0, x1, x2, _⟩ := BF.laid3 t
  have q0 : w.heap.size < w1.heap.size := by have := N1.out.lt; omega
  have hk : Kept (LS.DFoot b k a) w (((w1.setCell ⟨w.heap.size + 1, 0, none⟩ (.int .i64 K)).setCell ⟨w.heap.size + 1, 1, none⟩ (.int .i64 I)).setCell ⟨w.heap.size + 1, 2, none⟩ (.int .u32 G)) := by
    have q : Kept (LS.DFoot b k a) w w1 := (Kept.of_below HB0.out).trans H2.out
    exact ((q.put (p := ⟨w.heap.size + 1, 0, none⟩) (.inl (Nat.le_succ _)) _).put (p := ⟨w.heap.size + 1, 1, none⟩) (.inl (Nat.le_succ _)) _).put (p := ⟨w.heap.size + 1, 2, none⟩) (.inl (Nat.le_succ _)) _
  have q2 : Kept (· = w.heap.size + 1) w1 (((w1.setCell ⟨w.heap.size + 1, 0, none⟩ (.int .i64 K)).setCell ⟨w.heap.size + 1, 1, none⟩ (.int .i64 I)).setCell ⟨w.heap.size + 1, 2, none⟩ (.int .u32 G)) := (((Kept.refl _ w1).put1 0 _).put1 1 _).put1 2 _
  have h3 := H1.out.kept q2 (fun g hg e => by have := HLT.out g hg; omega)
  refine bodyPost_ret (v := .tuple #[.agg #[.int .i64 K, .int .i64 I, .int .u32 G], .int .i64 E]) (by simp [results, Tryz.results208, go_sem, x0, x1, x2]) rfl ⟨by rw [hK, hI, hG, hE], h3, hk⟩

theorem give_files (b : Nat) (w : World) : Calls Tryz.prog 183 #[.agg #[.pointer (some ⟨b, 0, none⟩)]] w fun e w' => e = .returned (.func (.func 186) #[.pointer (some ⟨b, 0, none⟩)] #[]) ∧ Below w.heap.size w w' := by
  have hmf : ∀ (fn : Fn) (first cap : Array Value) (w : World), (Instr.makeFunc fn first cap).run Tryz.prog w = .ok (.func fn first cap) w := fun _ _ _ _ => rfl
  go_enter Tryz.func183, Tryz.ntmps183
  go_wp2
  go_ret
  exact ⟨rfl, bel_new _ _⟩
set_option maxRecDepth 100000 in
theorem twin_files (b k m : Nat) (F : FD.Fb) (w : World) (h : FD.FW w b k m F) : Calls Tryz.prog 184 #[.agg #[.pointer (some ⟨b, 0, none⟩)]] w fun e w' => ∃ b', e = .returned (vF b') ∧ Hid (FD.FNew F w b' w') := by
  have B0 := bel_new w (.cells #[.pointer (some ⟨b, 0, none⟩)] 94)
  have HB0 := Lib.hid B0
  have H := Lib.hid (h.below B0)
  clear h B0
  go_enter Tryz.func184, Tryz.ntmps184
  go_wp2_with fail
  refine (FD.fcopy_ok b k m F _ H.out).mono ?_
  rintro e w1 ⟨b', rfl, hn⟩
  have HN := Lib.hid hn
  clear hn
  go_wp2
  go_ret
  refine ⟨b', rfl, ?_⟩
  obtain ⟨x, y, h1, h2, h3⟩ := HN.out.out
  exact ⟨x, y, h1, fun g hg => Nat.le_trans HB0.out.size (h2 g hg), HB0.out.trans (h3.mono HB0.out.size)⟩

theorem give_buffers (b : Nat) (w : World) : Calls Tryz.prog 201 #[.agg #[.pointer (some ⟨b, 0, none⟩)]] w fun e w' => e = .returned (.func (.func 204) #[.pointer (some ⟨b, 0, none⟩)] #[]) ∧ Below w.heap.size w w' := by
  have hmf : ∀ (fn : Fn) (first cap : Array Value) (w : World), (Instr.makeFunc fn first cap).run Tryz.prog w = .ok (.func fn first cap) w := fun _ _ _ _ => rfl
  go_enter Tryz.func201, Tryz.ntmps201
  go_wp2
  go_ret
  exact ⟨rfl, bel_new _ _⟩
set_option maxRecDepth 100000 in
theorem twin_buffers (b s k : Nat) (P : BF.Po) (w : World) (h : BF.PW w b s k P) : Calls Tryz.prog 202 #[.agg #[.pointer (some ⟨b, 0, none⟩)]] w fun e w' => ∃ b', e = .returned (vP b') ∧ Hid (BF.PNew P w b' w') := by
  have B0 := bel_new w (.cells #[.pointer (some ⟨b, 0, none⟩)] 96)
  have HB0 := Lib.hid B0
  have H := Lib.hid (h.below B0)
  clear h B0
  go_enter Tryz.func202, Tryz.ntmps202
  go_wp2_with fail
  refine (BF.pcopy_ok b s k P _ H.out).mono ?_
  rintro e w1 ⟨b', rfl, hn⟩
  have HN := Lib.hid hn
  clear hn
  go_wp2
  go_ret
  refine ⟨b', rfl, ?_⟩
  obtain ⟨x, y, h1, h2, h3⟩ := HN.out
  exact ⟨x, y, h1, fun g hg => Nat.le_trans HB0.out.size (h2 g hg), HB0.out.trans (h3.mono HB0.out.size)⟩

theorem give_desk (b : Nat) (w : World) : Calls Tryz.prog 209 #[.agg #[.pointer (some ⟨b, 0, none⟩)]] w fun e w' => e = .returned (.func (.func 212) #[.pointer (some ⟨b, 0, none⟩)] #[]) ∧ Below w.heap.size w w' := by
  have hmf : ∀ (fn : Fn) (first cap : Array Value) (w : World), (Instr.makeFunc fn first cap).run Tryz.prog w = .ok (.func fn first cap) w := fun _ _ _ _ => rfl
  go_enter Tryz.func209, Tryz.ntmps209
  go_wp2
  go_ret
  exact ⟨rfl, bel_new _ _⟩
set_option maxRecDepth 100000 in
theorem twin_desk (b k a : Nat) (D : LS.Dk) (w : World) (h : LS.DkW w b k a D) : Calls Tryz.prog 210 #[.agg #[.pointer (some ⟨b, 0, none⟩)]] w fun e w' => ∃ b', e = .returned (vD b') ∧ Hid (LS.DNew D w b' w') := by
  have B0 := bel_new w (.cells #[.pointer (some ⟨b, 0, none⟩)] 98)
  have HB0 := Lib.hid B0
  have H := Lib.hid (h.below B0)
  clear h B0
  go_enter Tryz.func210, Tryz.ntmps210
  go_wp2_with fail
  refine (LS.dcopy_ok b k a D _ H.out).mono ?_
  rintro e w1 ⟨b', rfl, hn⟩
  have HN := Lib.hid hn
  clear hn
  go_wp2
  go_ret
  refine ⟨b', rfl, ?_⟩
  obtain ⟨x, y, h1, h2, h3⟩ := HN.out
  exact ⟨x, y, h1, fun g hg => Nat.le_trans HB0.out.size (h2 g hg), HB0.out.trans (h3.mono HB0.out.size)⟩

end Go.Proofs.YtpinmiplefidpaaGreatDoor
