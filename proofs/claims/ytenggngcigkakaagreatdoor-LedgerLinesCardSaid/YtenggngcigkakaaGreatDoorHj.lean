/- The contracts of the program's First, Ended and Copy. -/
import Derived.Test.YtenggngcigkakaaGreatDoorHi
import Derived.Laws.ResultCell
namespace Go.Proofs.YtenggngcigkakaaGreatDoor
open Go.RowKit Go.Shelf Go.ChangeShapes

/-! ### First, Ended -/
theorem find_t (L : List Att) : L.find? prT = L.head? := by cases L <;> simp [prT, List.find?]
theorem find_e (L : List Att) : L.find? prE = L.find? (fun a => decide (a.n ≠ 2)) := by
  congr 1
  funext a
  unfold prE
  by_cases h : a.n = 2 <;> simp [h]
def FirstV (L : List Att) (w : World) (e : Ending) (w' : World) : Prop := e = .returned (.tuple #[(firstOf L).val, .bool !L.isEmpty]) ∧ Below w.heap.size w w'
def EndV (L : List Att) (w : World) (e : Ending) (w' : World) : Prop := e = .returned (.tuple #[.int .i64 (endOf L), .bool (isEnd L)]) ∧ Below w.heap.size w w'
set_option maxRecDepth 100000 in
set_option maxHeartbeats 2000000 in
theorem first_of (p : Option Addr) (k i g : Int) (L : List Att) (w : World)
    (hc : ∀ W, Below w.heap.size w W → Calls Tryz.prog 56 #[.pointer p, okey k i g, .func (.func 57) #[] #[]] W (FindV prT L W)) :
    Calls Tryz.prog 22 #[.pointer p, okey k i g] w (FirstV L w) := by
  have HC := Lib.hid hc
  have hF : Hid ((L.find? prT).getD att0 = firstOf L ∧ (L.find? prT).isSome = !L.isEmpty) := by unfold Hid; rw [find_t]; cases L <;> simp [firstOf, att0]
  clear hc
  have hb1 := bel_new w (.cells #[.int .i64 k, .int .i64 i, .int .u32 g] 25)
  have hb2 := Bk.new (w.alloc (.cells #[.int .i64 k, .int .i64 i, .int .u32 g] 25)) 32 #[.int .i64 0, .int .i64 0, .int .i64 0, .int .u32 0, .int .i64 0, .int .i64 0]
  rw [size_up] at hb2
  have HB2 := Lib.hid hb2
  have HBA : Hid (Below w.heap.size w ((w.alloc (.cells #[.int .i64 k, .int .i64 i, .int .u32 g] 25)).alloc (.cells #[.int .i64 0, .int .i64 0, .int .i64 0, .int .u32 0, .int .i64 0, .int .i64 0] 32))) := hb1.alloc (by simp) _
  clear hb1 hb2
  unfold okey
  go_enter Tryz.func22, Tryz.ntmps22
  go_wp2_with fail
  refine (HC.out _ HBA.out).mono ?_
  rintro e w1 ⟨rfl, hb⟩
  have hz := HB2.out.below hb
  obtain ⟨z0, z1, z2, z3, z4, z5⟩ := six_of (o := 0) (a := att0) hz (fun j u hj => by simpa [Att.cl, att0] using hj)
  have y0 := hz.frozen 0
  have y1 := hz.frozen 1
  have y2 := hz.frozen 2
  have y3 := hz.frozen 3
  have y4 := hz.frozen 4
  have y5 := hz.frozen 5
  simp only [att0, Nat.zero_add] at z0 z1 z2 z3 z4 z5
  have HX := Lib.hid (bel2 HBA.out hb)
  clear hz hb
  rw [hF.out.1, hF.out.2]
  obtain ⟨A, hA⟩ : ∃ A, firstOf L = A := ⟨_, rfl⟩
  obtain ⟨B, hB⟩ : ∃ B, (!L.isEmpty) = B := ⟨_, rfl⟩
  have HAB := Lib.hid (And.intro hA hB)
  rw [hA, hB]
  clear hA hB hF
  unfold Att.val
  go_wp2
  refine bodyPost_ret (v := .tuple #[.agg #[.int .i64 A.t, .int .i64 A.k, .int .i64 A.i, .int .u32 A.g, .int .i64 A.y, .int .i64 A.n], .bool B]) ?_ rfl ⟨by rw [HAB.out.1, HAB.out.2]; rfl, ?_⟩
  · rw [results_cell_tmp rfl]
    go_simp
  · have hle : w.heap.size ≤ w.heap.size + 1 := by omega
    exact (((((HX.out.setCell (p := ⟨_, 0, none⟩) hle _).setCell (p := ⟨_, 1, none⟩) hle _).setCell (p := ⟨_, 2, none⟩) hle _).setCell (p := ⟨_, 3, none⟩) hle _).setCell (p := ⟨_, 4, none⟩) hle _).setCell (p := ⟨_, 5, none⟩) hle _
theorem first_ok (b bk lo : Nat) (l : List Att) (k i g : Int) (hr : RgO k i g) (w : World) (h : LedW w b bk lo l) : Calls Tryz.prog 22 #[.pointer (some ⟨b, 0, none⟩), okey k i g] w (FirstV (ofL l k i g) w) :=
  first_of _ k i g _ w fun W hW => ffirst_ok b bk lo l k i g hr W (h.below hW).1
theorem first_no (p : Option Addr) (k i g : Int) (w : World) (h : Inv w p) : Calls Tryz.prog 22 #[.pointer p, okey k i g] w (FirstV [] w) :=
  first_of _ k i g _ w fun W hW => ffirst_no p k i g W (h.below hW)
set_option maxRecDepth 100000 in
set_option maxHeartbeats 2000000 in
theorem ended_of (p : Option Addr) (k i g : Int) (L : List Att) (w : World)
    (hc : ∀ W, Below w.heap.size w W → Calls Tryz.prog 56 #[.pointer p, okey k i g, .func (.func 58) #[] #[]] W (FindV prE L W)) :
    Calls Tryz.prog 24 #[.pointer p, okey k i g] w (EndV L w) := by
  have HC := Lib.hid hc
  have hF : Hid (((L.find? prE).getD att0).n = endOf L ∧ (L.find? prE).isSome = isEnd L) := by
    unfold Hid isEnd endOf
    rw [find_e]
    refine ⟨?_, rfl⟩
    cases (L.find? fun a => decide (a.n ≠ 2)) <;> rfl
  clear hc
  have HBA := Lib.hid (bel_new w (.cells #[.int .i64 k, .int .i64 i, .int .u32 g] 25))
  unfold okey
  go_enter Tryz.func24, Tryz.ntmps24
  go_wp2_with fail
  refine (HC.out _ HBA.out).mono ?_
  rintro e w1 ⟨rfl, hb⟩
  have HX := Lib.hid (bel2 HBA.out hb)
  clear hb
  obtain ⟨A, hA⟩ : ∃ A, (L.find? prE).getD att0 = A := ⟨_, rfl⟩
  obtain ⟨B, hB⟩ : ∃ B, (L.find? prE).isSome = B := ⟨_, rfl⟩
  rw [hA, hB] at hF ⊢
  have HAB := Lib.hid hF.out
  clear hA hB hF
  unfold Att.val
  go_wp2
  go_ret2
  exact ⟨by rw [← HAB.out.1, ← HAB.out.2]; rfl, HX.out.alloc HX.out.size _⟩
theorem ended_ok (b bk lo : Nat) (l : List Att) (k i g : Int) (hr : RgO k i g) (w : World) (h : LedW w b bk lo l) : Calls Tryz.prog 24 #[.pointer (some ⟨b, 0, none⟩), okey k i g] w (EndV (ofL l k i g) w) :=
  ended_of _ k i g _ w fun W hW => fended_ok b bk lo l k i g hr W (h.below hW).1
theorem ended_no (p : Option Addr) (k i g : Int) (w : World) (h : Inv w p) : Calls Tryz.prog 24 #[.pointer p, okey k i g] w (EndV [] w) :=
  ended_of _ k i g _ w fun W hW => fended_no p k i g W (h.below hW)

/-! ### Copy -/
/-- A new ledger that holds l; all its blocks are new. -/
def CopyV (l : List Att) (w : World) (e : Ending) (w' : World) : Prop := ∃ b bk, e = .returned (.pointer (some ⟨b, 0, none⟩)) ∧ w.heap.size ≤ b ∧ LedW w' b bk w.heap.size l ∧ Below w.heap.size w w'
theorem copy_no (p : Option Addr) (w : World) (h : Inv w p) : Calls Tryz.prog 16 #[.pointer p] w fun e w' => e = .returned (.pointer none) ∧ w = w' := by
  go_enter Tryz.func16, Tryz.ntmps16
  go_wp2_with (go_at_call 50; refine (valid_no _ _ h).mono ?_; rintro e w' ⟨rfl, rfl⟩)
  go_ret
  exact ⟨rfl, rfl⟩
set_option maxRecDepth 100000 in
set_option maxHeartbeats 2000000 in
theorem copy_ok (b bk lo : Nat) (l : List Att) (w : World) (h : LedW w b bk lo l) : Calls Tryz.prog 16 #[.pointer (some ⟨b, 0, none⟩)] w (CopyV l w) := by
  have H := Lib.hid h
  have hc := h.cell
  have hlen := h.len
  have hlt0 := h.hb.lt
  obtain ⟨m, v, hBk⟩ := h.book
  obtain ⟨sa, sc, rfl, k0, k1, _, hrd⟩ := hBk.cells
  have HRD := Lib.hid hrd
  obtain ⟨_, hcap, hcm, _⟩ := hrd.cap
  clear h hBk hrd k1
  go_enter Tryz.func16, Tryz.ntmps16
  go_wp2_with (go_at_call 50; refine (valid_yes _ _ _ hc).mono ?_; rintro e w' ⟨rfl, rfl⟩)
  refine (new_ok _).mono ?_
  rintro e w1 ⟨rfl, hn, hb⟩
  have HN := Lib.hid hn
  have HB := Lib.hid hb
  have hc1 := cell_stays hb hc
  have k2 := cell_stays hb k0
  clear hc k0 hn hb
  go_wp2
  go_loopw [18] (fun i wr => ∃ j : Nat, j ≤ l.length ∧ i = .int .i64 j ∧ Hid (LedW wr (w.heap.size + 2) (w.heap.size + 1) w.heap.size (l.take j)) ∧ Hid (Below w.heap.size w wr)) (fun i _ => l.length - (intOf i).toNat)
  case atStart => exact ⟨0, Nat.zero_le _, rfl, HN, HB⟩
  case round =>
    obtain ⟨j, hj, rfl, HL, HBr⟩ := hrel
    by_cases hlt : j < l.length
    · obtain ⟨gl, off, rfl, hgl, hsix⟩ := (HRD.out.below HBr.out).cell hlt
      have hok : l[j].Ok := H.out.ok _ (List.getElem_mem hlt)
      have hsn : l.take (j + 1) = l.take j ++ [l[j]] := List.take_succ_eq_append_getElem hlt
      have HSN := Lib.hid hsn
      have HOK := Lib.hid hok
      clear hsn hok
      generalize l[j] = x at *
      obtain ⟨c0, c1, c2, c3, c4, c5⟩ := hsix
      have hW3 := bel_new wr (.cells #[.int .i64 x.t, .int .i64 x.k, .int .i64 x.i, .int .u32 x.g, .int .i64 x.y, .int .i64 x.n] 32)
      have hL3 := (HL.out.below hW3).1
      have hbx : Bk (wr.alloc (.cells #[.int .i64 x.t, .int .i64 x.k, .int .i64 x.i, .int .u32 x.g, .int .i64 x.y, .int .i64 x.n] 32)) wr.heap.size 32 x.cl.toArray := Bk.new wr _ _
      obtain ⟨m3, v3, hB3⟩ := hL3.book
      have hc3 := hL3.cell
      obtain ⟨d0, d1, d2, d3, d4, d5⟩ := six_new hbx
      simp only [Nat.zero_add] at d0 d1 d2 d3 d4 d5
      have HL3 := Lib.hid hL3
      have HB3 := Lib.hid hB3
      have HBW := Lib.hid (bel2 HBr.out hW3)
      have hpl : (l.take j).length < 10000 := by rw [List.length_take]; omega
      have HPL := Lib.hid hpl
      clear hL3 hB3 hW3 hbx hpl hc1 k2
      go_wp2
      generalize wr.alloc (.cells #[.int .i64 x.t, .int .i64 x.k, .int .i64 x.i, .int .u32 x.g, .int .i64 x.y, .int .i64 x.n] 32) = W3 at *
      clear c0 c1 c2 c3 c4 c5
      go_still_tail 5, (by kernel_rfl)
      change wpList _ _ _ _ _ W3.drew
      go_wp2_with (go_at_call 51; refine (put_ok _ m3 _ v3 (l.take j) x _ (HB3.out.below (bel_drew (Below.refl _ _))).1 HOK.out HPL.out).mono ?_; rintro e w' ⟨rfl, hp⟩)
      have HN2 : Hid (LedW w' (w.heap.size + 2) (w.heap.size + 1) w.heap.size (l.take (j + 1)) ∧ Below w.heap.size w w') := by
        obtain ⟨p1, p2, p3⟩ := hp
        have hd := HL3.out.below (w' := W3.drew) (bel_drew (Below.refl _ _))
        refine ⟨?_, (bel_drew HBW.out).trans ?_⟩
        · rw [HSN.out]
          exact ⟨hd.1.hb.kept p2 hd.1.not_foot, m3, p1⟩
        · exact p2.below (by have := HBW.out.size; exact this) (fun k hk => (hd.1.foot_le hk).1)
      clear hp
      go_wp2
      go_roundw
      case rel => exact ⟨j + 1, by omega, by go_num, HN2.out.1, HN2.out.2⟩
      case measure => simp [intOf]; omega
    · obtain rfl : j = l.length := by omega
      clear hlt
      go_wp2
      go_ret
      have hl := HL.out
      rw [List.take_length] at hl
      exact ⟨_, _, rfl, by omega, hl, HBr.out⟩
end Go.Proofs.YtenggngcigkakaaGreatDoor
