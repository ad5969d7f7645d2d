/- LedgerParts gives true: the walk. -/
import Derived.Test.YtenggngcigkakaaGreatDoorIi
namespace Go.Proofs.YtenggngcigkakaaGreatDoor
open Go.RowKit Go.ChangeShapes

theorem wpList_append_w {w : World} {ops : Array Oper} {rest : List Oper} {o : Oper} {a : Act} {Q : Exit → Act → World → Prop} (hgd : o.guard = none) (s x : Operand) (t tn : TypeId)
    (ho : o.op = .call { callee := .builtin .append, args := #[s, x], argTypes := #[t, tn] }) (vs vx : Value) (hs : a.eval s = vs) (hx : a.eval x = vx)
    (v' : Value) (w' : World) (hr : (Builtin.append_ #[t, tn] o.type #[vs, vx]).run Tryz.prog w = .ok v' w') (h : wpList Tryz.prog ops Q rest (a.put o.dst v') w') : wpList Tryz.prog ops Q (o :: rest) a w :=
  wpList_plain hgd fun _ hK => Lib.wp_append_run w s x t tn ho vs vx hs hx v' w' hr (hK _ _ h)
/-- What stays while the resources are asked for. -/
structure PaW (w W : World) (b bk lo : Nat) (p : Option Addr) (N c1 : Nat) (L : List Att) : Prop where
  led : LedW W b bk lo L
  rd : RdA W (.slice p N c1) L
  bel : Below w.heap.size w W
theorem PaW.below {w W W' : World} {b bk lo N c1 : Nat} {p : Option Addr} {L : List Att} (h : PaW w W b bk lo p N c1 L) (hb : Below W.heap.size W W') : PaW w W' b bk lo p N c1 L :=
  ⟨(h.led.below hb).1, h.rd.below hb, bel2 h.bel hb⟩
section
variable {P : Program} {ops : List Oper} {Q : Exit → Act → World → Prop} {md : Region.Mode} {S : World → Prop}
theorem take_y {i : Nat} {oi : Oper} {v : Value} {fuel : Nat} {listed : Array Bool} {a : Act} {w : World} (hi : ops[i]? = some oi)
    (hs : Region.noSelect ops.toArray = true) (hf : Region.free md ops.toArray listed i = true) (hr : (Region.ready md ops.toArray listed).contains i = true)
    (hQ : ∀ c a w, Q (.panic c) (a.put oi.dst v) w → Q (.panic c) a w) (hw : Region.wanted oi (yielded ops.toArray a.tmps) = true) (hy : ∀ w, S w → (execOp a.eval oi).run P w = .ok (.value v) w) (hS : S w)
    (h : wpAnyH P md ops.toArray Q S fuel (listed.setIfInBounds i true) (a.put oi.dst v) w) : wpAnyH P md ops.toArray Q S (fuel + 1) listed a w :=
  wpAnyH_take (i := i) (by simpa using hi) hs hf hr hQ (Or.inl ⟨hw, hy⟩) hS h
theorem take_n {i : Nat} {oi : Oper} {fuel : Nat} {listed : Array Bool} {a : Act} {w : World} (hi : ops[i]? = some oi)
    (hs : Region.noSelect ops.toArray = true) (hf : Region.free md ops.toArray listed i = true) (hr : (Region.ready md ops.toArray listed).contains i = true)
    (hQ : ∀ c a w, Q (.panic c) (a.put oi.dst undef) w → Q (.panic c) a w) (hw : Region.wanted oi (yielded ops.toArray a.tmps) = false) (hS : S w)
    (h : wpAnyH P md ops.toArray Q S fuel (listed.setIfInBounds i true) (a.put oi.dst undef) w) : wpAnyH P md ops.toArray Q S (fuel + 1) listed a w :=
  wpAnyH_take (i := i) (by simpa using hi) hs hf hr hQ (Or.inr ⟨hw, rfl⟩) hS h
theorem ready_1 {i : Nat} {o : Oper} {fuel : Nat} {listed : Array Bool} {a : Act} {w : World} (hi : ops[i]? = some o) (hr : Region.ready md ops.toArray listed = [i]) (hw : Region.wanted o (yielded ops.toArray a.tmps) = true)
    (h : ∀ K' : Act → World → Prop, Shut (∀ a w, S w → (S w → wpAnyH P md ops.toArray Q S fuel (listed.setIfInBounds i true) a w) → K' a w) → Oper.wp P o a w K' Q) : wpAnyH P md ops.toArray Q S (fuel + 1) listed a w :=
  wpAnyH_ready hr (by simp) (AllReadyH.cons (o := o) (by simpa using hi) (fun K hK => by rw [if_pos hw]; exact h K hK) AllReadyH.nil)
end
set_option maxRecDepth 100000 in
set_option maxHeartbeats 4000000 in
theorem lPar_walk (a : Option Addr) (n c : Nat) (l : List Ent) (w : World) (hl : RdE w (.slice a n c) l) (he : EnvL w) :
    Calls Tryz.prog 9 #[.slice a n c] w fun e w' => e = .returned (.bool true) ∧ Below w.heap.size w w' := by
  have HE := Lib.hid he
  have HL := Lib.hid hl
  have HRG : Hid (∀ x ∈ l, x.Rg) := by obtain ⟨_, _, _, _, _, h, _⟩ := hl; exact h
  have HST : Hid (Steady (entL 0 (l.take 100))) := entL_steady _ (fun x hx => HRG.out x (List.mem_of_mem_take hx)) 0 (by rw [List.length_take]; omega) (by rw [List.length_take]; omega)
  have HLN : Hid ((entL 0 (l.take 100)).length ≤ 100) := by rw [Hid, entL_length, List.length_take]; omega
  have HCA : Hid (cntTo (entL 0 (l.take 100)) 12 = (entL 0 (l.take 100)).length) := cntTo_all _ _
  clear he hl HRG
  have HA : Hid (∀ W, RdE W (.slice a n c) l → Calls Tryz.prog 39 #[.slice a n c] W (NewA (entL 0 (l.take 100)) W)) := fun W h => atts_ok a n c l W h
  generalize entL 0 (l.take 100) = L at *
  obtain ⟨N, hN⟩ : ∃ N, L.length = N := ⟨_, rfl⟩
  have HN := Lib.hid hN
  have hN100 : N ≤ 100 := by have := HLN.out; omega
  clear hN
  go_enter Tryz.func9, Tryz.ntmps9
  go_wp2_with fail
  refine (HA.out _ HL.out).mono ?_
  rintro e w1 ⟨v, rfl, ho, hb1⟩
  obtain ⟨p, c1, rfl⟩ : ∃ p c1, v = .slice p N c1 := by have := rd_slice (RdA.of_own ho); rw [HN.out] at this; exact this
  have HB1 := Lib.hid hb1
  have HO1 := Lib.hid ho
  clear ho hb1 HL HA
  go_wp2_with fail
  refine (filled_ok p _ c1 L w1 (RdA.of_own HO1.out) (own_lt HO1.out) HST.out (HE.out.below HB1.out)).mono ?_
  rintro e w2 ⟨b, bk, rfl, hl2, hf2, hb2⟩
  have HW2 : Hid (PaW w w2 b bk w1.heap.size p N c1 L) := ⟨hl2, hf2.rd, bel2 HB1.out hb2⟩
  clear hl2 hf2 hb2 HB1 HO1
  go_wp2_with fail
  refine (all_ok b bk _ L w2 HW2.out.led).mono ?_
  rintro e w3 ⟨v, rfl, ho, hb3⟩
  obtain ⟨pa, na, ca, rfl⟩ : ∃ pa na ca, v = .slice pa na ca := by obtain ⟨q, k, h⟩ := rd_slice (RdA.of_own ho); exact ⟨_, _, _, h⟩
  have HW3 := Lib.hid (HW2.out.below hb3)
  have HR3 := Lib.hid (RdA.of_own ho)
  clear ho hb3 HW2
  go_wp2_with fail
  refine (equal_yes _ _ _ _ _ _ L _ HR3.out HW3.out.rd).mono ?_
  rintro e w4 ⟨rfl, hb4⟩
  have HW4 := Lib.hid (HW3.out.below hb4)
  clear hb4 HW3 HR3
  go_wp2_with fail
  refine (len_ok b bk _ L w4 HW4.out.led).mono ?_
  rintro e w' ⟨rfl, rfl⟩
  rw [HN.out]
  go_wp2
  go_loopw [5, 37] (fun s i wr => ∃ j : Nat, j ≤ 12 ∧ i = .int .i64 j ∧ s = .int .i64 (cntTo L j) ∧ Hid (PaW w wr b bk w1.heap.size p N c1 L)) (fun _ i _ => 12 - (intOf i).toNat)
  case atStart => exact ⟨0, Nat.zero_le _, rfl, rfl, HW4⟩
  case round =>
    obtain ⟨j, hj, rfl, rfl, HW⟩ := hrel
    clear HW4
    obtain ⟨C, hC⟩ : ∃ C, cntTo L j = C := ⟨_, rfl⟩
    rw [hC]
    have HC := Lib.hid hC
    have hCb : C ≤ 1200 := by
      have h1 := cntTo_le L j
      have h2 := HLN.out
      rw [hC] at h1
      exact Nat.le_trans h1 (Nat.le_trans (Nat.mul_le_mul hj h2) (by decide))
    clear hC
    by_cases hlt : j < 12
    · have HCS : Hid (cntTo L (j + 1) = C + (ofL L (1 + (j : Int) % 3) ((j : Int) / 3 % 2) (1 + (j : Int) / 6)).length) := by rw [Hid, cntTo, HC.out]
      have HRO : Hid (RgO (1 + (j : Int) % 3) ((j : Int) / 3 % 2) (1 + (j : Int) / 6)) := by constructor <;> omega
      go_wp2
      obtain ⟨bt, hbt⟩ : ∃ bt, decide ((j : Int) < 12) = bt := ⟨_, rfl⟩
      rw [hbt]
      clear hbt
      generalize 1 + (j : Int) % 3 = K at *
      generalize (j : Int) / 3 % 2 = I at *
      generalize 1 + (j : Int) / 6 = G at *
      have HW1 := Lib.hid (HW.out.below (bel_new wr (.cells #[.int .i64 K, .int .i64 I, .int .u32 G] 25)))
      have HOX1 := Lib.hid (Bk.new wr 25 #[.int .i64 K, .int .i64 I, .int .u32 G])
      clear HW
      have hs1 := size_up wr (.cells #[.int .i64 K, .int .i64 I, .int .u32 G] 25)
      generalize wr.alloc (.cells #[.int .i64 K, .int .i64 I, .int .u32 G] 25) = W1 at *
      generalize wr.heap.size = ob at *
      clear hs1
      go_loopw [8, 9, 10, 53] (fun v s9 s10 i wr => ∃ (q m : Nat) (pv : Option Addr) (cv : Nat), q ≤ N ∧ i = .int .i64 q ∧ v = .slice pv m cv ∧ s9 = .int .i64 (endOf (ofL (L.take q) K I G)) ∧ s10 = .bool (isEnd (ofL (L.take q) K I G)) ∧ Hid ((ofL (L.take q) K I G).length = m) ∧ Hid (wr.ownsRow W1.heap.size 32 6 (.slice pv m cv) (ofL (L.take q) K I G).length (cls (ofL (L.take q) K I G))) ∧ Hid (Below W1.heap.size W1 wr)) (fun _ _ _ i _ => N - (intOf i).toNat)
      case atStart => exact ⟨0, 0, none, 0, Nat.zero_le _, rfl, rfl, rfl, rfl, rfl, World.ownsRow_nil _ _ _ _, Below.refl _ _⟩
      case round =>
        obtain ⟨q, m, pv, cv, hqN, rfl, rfl, rfl, rfl, HM, HO, HB⟩ := hrel
        have HW := Lib.hid (HW1.out.below HB.out)
        have HOX := Lib.hid (HOX1.out.below HB.out)
        have hm100 : m ≤ 100 := by
          have h1 := ofL_le (L.take q) K I G
          rw [HM.out, List.length_take, HN.out] at h1
          omega
        by_cases hlq : q < N
        · have hlq2 : q < L.length := by rw [HN.out]; exact hlq
          obtain ⟨gl, off, rfl, hgl, hsix⟩ := HW.out.rd.cell hlq2
          have HS1 := Lib.hid (ofL_take L q hlq2 K I G)
          generalize L[q] = x at *
          obtain ⟨e0, e1, e2, e3, e4, e5⟩ := hsix
          clear hlq2 hgl
          by_cases h0 : x.k = K
          · by_cases h1 : x.i = I
            · by_cases h2 : x.g = G
              · by_cases hxn : x.n = 2
                · skip
                  have hn2 : x.n = 2 := hxn
                  have HIS : Hid (x.is K I G = true) := by rw [Hid]; unfold Att.is; rw [decide_eq_true_eq]; exact ⟨h0, h1, h2⟩
                  have HOF : Hid (ofL (L.take (q + 1)) K I G = ofL (L.take q) K I G ++ [x]) := by rw [Hid, HS1.out, HIS.out, if_pos rfl]
                  have HXE : Hid (x.cl.toArray = #[.int .i64 x.t, .int .i64 K, .int .i64 I, .int .u32 G, .int .i64 x.y, .int .i64 2]) := by rw [Hid, ← h0, ← h1, ← h2, ← hn2]; rfl
                  rw [h0] at e1
                  rw [h1] at e2
                  rw [h2] at e3
                  have HEN := Lib.hid (endOf_snoc_no (ofL (L.take q) K I G) x (.inl hn2))
                  rw [hn2] at e5
                  have d0 := (HOX.out.below (bel_new wr (.cells #[.int .i64 x.t, .int .i64 K, .int .i64 I, .int .u32 G, .int .i64 x.y, .int .i64 2] 32))).cell 0
                  have d1 := (HOX.out.below (bel_new wr (.cells #[.int .i64 x.t, .int .i64 K, .int .i64 I, .int .u32 G, .int .i64 x.y, .int .i64 2] 32))).cell 1
                  have d2 := (HOX.out.below (bel_new wr (.cells #[.int .i64 x.t, .int .i64 K, .int .i64 I, .int .u32 G, .int .i64 x.y, .int .i64 2] 32))).cell 2
                  have hx1 : Bk (wr.alloc (.cells #[.int .i64 x.t, .int .i64 K, .int .i64 I, .int .u32 G, .int .i64 x.y, .int .i64 2] 32)) wr.heap.size 32 x.cl.toArray := by rw [HXE.out]; exact Bk.new wr _ _
                  have hx2 : Bk ((wr.alloc (.cells #[.int .i64 x.t, .int .i64 K, .int .i64 I, .int .u32 G, .int .i64 x.y, .int .i64 2] 32)).alloc (.cells #[.int .i64 x.t, .int .i64 K, .int .i64 I, .int .u32 G, .int .i64 x.y, .int .i64 2] 32)) (wr.heap.size + 1) 32 x.cl.toArray := by
                    have := Bk.new (wr.alloc (.cells #[.int .i64 x.t, .int .i64 K, .int .i64 I, .int .u32 G, .int .i64 x.y, .int .i64 2] 32)) 32 #[.int .i64 x.t, .int .i64 K, .int .i64 I, .int .u32 G, .int .i64 x.y, .int .i64 2]
                    rw [size_up] at this
                    rw [HXE.out]; exact this
                  have hbw := bel2 (bel_new wr (.cells #[.int .i64 x.t, .int .i64 K, .int .i64 I, .int .u32 G, .int .i64 x.y, .int .i64 2] 32)) (bel_new (wr.alloc (.cells #[.int .i64 x.t, .int .i64 K, .int .i64 I, .int .u32 G, .int .i64 x.y, .int .i64 2] 32)) (.cells #[.int .i64 x.t, .int .i64 K, .int .i64 I, .int .u32 G, .int .i64 x.y, .int .i64 2] 32))
                  have hml : (ofL (L.take q) K I G).length ≤ 20000 := by rw [HM.out]; omega
                  obtain ⟨p8, c8, w8, hr8, ho8, hk8⟩ := app_one HM.out (own_below HO.out hbw) hx2 hml (Nat.le_trans HB.out.size hbw.size)
                  have HX8 : Hid (Bk w8 wr.heap.size 32 x.cl.toArray) := (hx1.below (bel_new (wr.alloc (.cells #[.int .i64 x.t, .int .i64 K, .int .i64 I, .int .u32 G, .int .i64 x.y, .int .i64 2] 32)) (.cells #[.int .i64 x.t, .int .i64 K, .int .i64 I, .int .u32 G, .int .i64 x.y, .int .i64 2] 32))).kept hk8 (fun e => absurd (own_lt HO.out wr.heap.size 0 m cv (by rw [e])) (Nat.lt_irrefl _))
                  have HB8 := Lib.hid ((bel2 HB.out hbw).trans (hk8.below (Nat.le_trans HB.out.size hbw.size) (fun k e => (HO.out.lt k (by rw [e]; rfl)).1)))
                  have HO8 := Lib.hid ho8
                  have hxx := HX8.out
                  rw [HXE.out] at hxx
                  have f5 := hxx.cell 5
                  clear hx1 hx2 hbw hml ho8 hk8 hxx
                  go_wp2_with (at_builtin; refine wpList_append_w rfl _ _ _ _ rfl _ _ rfl rfl _ _ hr8 ?_)
                  go_roundw
                  case rel => exact ⟨q + 1, m + 1, p8, c8, by omega, by go_num, rfl, by rw [HOF.out, HEN.out.1], by rw [HOF.out, HEN.out.2], by rw [Hid, HOF.out, List.length_append, HM.out]; rfl, by rw [Hid, HOF.out]; exact HO8.out, HB8.out⟩
                  case measure => simp [intOf]; omega
                · cases hie : isEnd (ofL (L.take q) K I G) with
                  | true =>
                    have hn2 : ¬ x.n = 2 := hxn
                    have HIS : Hid (x.is K I G = true) := by rw [Hid]; unfold Att.is; rw [decide_eq_true_eq]; exact ⟨h0, h1, h2⟩
                    have HOF : Hid (ofL (L.take (q + 1)) K I G = ofL (L.take q) K I G ++ [x]) := by rw [Hid, HS1.out, HIS.out, if_pos rfl]
                    have HXE : Hid (x.cl.toArray = #[.int .i64 x.t, .int .i64 K, .int .i64 I, .int .u32 G, .int .i64 x.y, .int .i64 x.n]) := by rw [Hid, ← h0, ← h1, ← h2]; rfl
                    rw [h0] at e1
                    rw [h1] at e2
                    rw [h2] at e3
                    have HEN := Lib.hid (endOf_snoc_no (ofL (L.take q) K I G) x (.inr hie))
                    have hnb : (x.n == 2) = false := by rw [beq_eq_false_iff_ne]; exact hn2
                    have d0 := (HOX.out.below (bel_new wr (.cells #[.int .i64 x.t, .int .i64 K, .int .i64 I, .int .u32 G, .int .i64 x.y, .int .i64 x.n] 32))).cell 0
                    have d1 := (HOX.out.below (bel_new wr (.cells #[.int .i64 x.t, .int .i64 K, .int .i64 I, .int .u32 G, .int .i64 x.y, .int .i64 x.n] 32))).cell 1
                    have d2 := (HOX.out.below (bel_new wr (.cells #[.int .i64 x.t, .int .i64 K, .int .i64 I, .int .u32 G, .int .i64 x.y, .int .i64 x.n] 32))).cell 2
                    have hx1 : Bk (wr.alloc (.cells #[.int .i64 x.t, .int .i64 K, .int .i64 I, .int .u32 G, .int .i64 x.y, .int .i64 x.n] 32)) wr.heap.size 32 x.cl.toArray := by rw [HXE.out]; exact Bk.new wr _ _
                    have hx2 : Bk ((wr.alloc (.cells #[.int .i64 x.t, .int .i64 K, .int .i64 I, .int .u32 G, .int .i64 x.y, .int .i64 x.n] 32)).alloc (.cells #[.int .i64 x.t, .int .i64 K, .int .i64 I, .int .u32 G, .int .i64 x.y, .int .i64 x.n] 32)) (wr.heap.size + 1) 32 x.cl.toArray := by
                      have := Bk.new (wr.alloc (.cells #[.int .i64 x.t, .int .i64 K, .int .i64 I, .int .u32 G, .int .i64 x.y, .int .i64 x.n] 32)) 32 #[.int .i64 x.t, .int .i64 K, .int .i64 I, .int .u32 G, .int .i64 x.y, .int .i64 x.n]
                      rw [size_up] at this
                      rw [HXE.out]; exact this
                    have hbw := bel2 (bel_new wr (.cells #[.int .i64 x.t, .int .i64 K, .int .i64 I, .int .u32 G, .int .i64 x.y, .int .i64 x.n] 32)) (bel_new (wr.alloc (.cells #[.int .i64 x.t, .int .i64 K, .int .i64 I, .int .u32 G, .int .i64 x.y, .int .i64 x.n] 32)) (.cells #[.int .i64 x.t, .int .i64 K, .int .i64 I, .int .u32 G, .int .i64 x.y, .int .i64 x.n] 32))
                    have hml : (ofL (L.take q) K I G).length ≤ 20000 := by rw [HM.out]; omega
                    obtain ⟨p8, c8, w8, hr8, ho8, hk8⟩ := app_one HM.out (own_below HO.out hbw) hx2 hml (Nat.le_trans HB.out.size hbw.size)
                    have HX8 : Hid (Bk w8 wr.heap.size 32 x.cl.toArray) := (hx1.below (bel_new (wr.alloc (.cells #[.int .i64 x.t, .int .i64 K, .int .i64 I, .int .u32 G, .int .i64 x.y, .int .i64 x.n] 32)) (.cells #[.int .i64 x.t, .int .i64 K, .int .i64 I, .int .u32 G, .int .i64 x.y, .int .i64 x.n] 32))).kept hk8 (fun e => absurd (own_lt HO.out wr.heap.size 0 m cv (by rw [e])) (Nat.lt_irrefl _))
                    have HB8 := Lib.hid ((bel2 HB.out hbw).trans (hk8.below (Nat.le_trans HB.out.size hbw.size) (fun k e => (HO.out.lt k (by rw [e]; rfl)).1)))
                    have HO8 := Lib.hid ho8
                    have hxx := HX8.out
                    rw [HXE.out] at hxx
                    have f5 := hxx.cell 5
                    clear hx1 hx2 hbw hml ho8 hk8 hxx
                    go_wp2_with (at_builtin; refine wpList_append_w rfl _ _ _ _ rfl _ _ rfl rfl _ _ hr8 ?_)
                    go_roundw
                    case rel => exact ⟨q + 1, m + 1, p8, c8, by omega, by go_num, rfl, by rw [HOF.out, HEN.out.1], by rw [HOF.out, HEN.out.2, hie], by rw [Hid, HOF.out, List.length_append, HM.out]; rfl, by rw [Hid, HOF.out]; exact HO8.out, HB8.out⟩
                    case measure => simp [intOf]; omega
                  | false =>
                    have hn2 : ¬ x.n = 2 := hxn
                    have HIS : Hid (x.is K I G = true) := by rw [Hid]; unfold Att.is; rw [decide_eq_true_eq]; exact ⟨h0, h1, h2⟩
                    have HOF : Hid (ofL (L.take (q + 1)) K I G = ofL (L.take q) K I G ++ [x]) := by rw [Hid, HS1.out, HIS.out, if_pos rfl]
                    have HXE : Hid (x.cl.toArray = #[.int .i64 x.t, .int .i64 K, .int .i64 I, .int .u32 G, .int .i64 x.y, .int .i64 x.n]) := by rw [Hid, ← h0, ← h1, ← h2]; rfl
                    rw [h0] at e1
                    rw [h1] at e2
                    rw [h2] at e3
                    have HEN := Lib.hid (endOf_snoc_yes (ofL (L.take q) K I G) x hn2 hie)
                    have hnb : (x.n == 2) = false := by rw [beq_eq_false_iff_ne]; exact hn2
                    have d0 := (HOX.out.below (bel_new wr (.cells #[.int .i64 x.t, .int .i64 K, .int .i64 I, .int .u32 G, .int .i64 x.y, .int .i64 x.n] 32))).cell 0
                    have d1 := (HOX.out.below (bel_new wr (.cells #[.int .i64 x.t, .int .i64 K, .int .i64 I, .int .u32 G, .int .i64 x.y, .int .i64 x.n] 32))).cell 1
                    have d2 := (HOX.out.below (bel_new wr (.cells #[.int .i64 x.t, .int .i64 K, .int .i64 I, .int .u32 G, .int .i64 x.y, .int .i64 x.n] 32))).cell 2
                    have hx1 : Bk (wr.alloc (.cells #[.int .i64 x.t, .int .i64 K, .int .i64 I, .int .u32 G, .int .i64 x.y, .int .i64 x.n] 32)) wr.heap.size 32 x.cl.toArray := by rw [HXE.out]; exact Bk.new wr _ _
                    have hx2 : Bk ((wr.alloc (.cells #[.int .i64 x.t, .int .i64 K, .int .i64 I, .int .u32 G, .int .i64 x.y, .int .i64 x.n] 32)).alloc (.cells #[.int .i64 x.t, .int .i64 K, .int .i64 I, .int .u32 G, .int .i64 x.y, .int .i64 x.n] 32)) (wr.heap.size + 1) 32 x.cl.toArray := by
                      have := Bk.new (wr.alloc (.cells #[.int .i64 x.t, .int .i64 K, .int .i64 I, .int .u32 G, .int .i64 x.y, .int .i64 x.n] 32)) 32 #[.int .i64 x.t, .int .i64 K, .int .i64 I, .int .u32 G, .int .i64 x.y, .int .i64 x.n]
                      rw [size_up] at this
                      rw [HXE.out]; exact this
                    have hbw := bel2 (bel_new wr (.cells #[.int .i64 x.t, .int .i64 K, .int .i64 I, .int .u32 G, .int .i64 x.y, .int .i64 x.n] 32)) (bel_new (wr.alloc (.cells #[.int .i64 x.t, .int .i64 K, .int .i64 I, .int .u32 G, .int .i64 x.y, .int .i64 x.n] 32)) (.cells #[.int .i64 x.t, .int .i64 K, .int .i64 I, .int .u32 G, .int .i64 x.y, .int .i64 x.n] 32))
                    have hml : (ofL (L.take q) K I G).length ≤ 20000 := by rw [HM.out]; omega
                    obtain ⟨p8, c8, w8, hr8, ho8, hk8⟩ := app_one HM.out (own_below HO.out hbw) hx2 hml (Nat.le_trans HB.out.size hbw.size)
                    have HX8 : Hid (Bk w8 wr.heap.size 32 x.cl.toArray) := (hx1.below (bel_new (wr.alloc (.cells #[.int .i64 x.t, .int .i64 K, .int .i64 I, .int .u32 G, .int .i64 x.y, .int .i64 x.n] 32)) (.cells #[.int .i64 x.t, .int .i64 K, .int .i64 I, .int .u32 G, .int .i64 x.y, .int .i64 x.n] 32))).kept hk8 (fun e => absurd (own_lt HO.out wr.heap.size 0 m cv (by rw [e])) (Nat.lt_irrefl _))
                    have HB8 := Lib.hid ((bel2 HB.out hbw).trans (hk8.below (Nat.le_trans HB.out.size hbw.size) (fun k e => (HO.out.lt k (by rw [e]; rfl)).1)))
                    have HO8 := Lib.hid ho8
                    have hxx := HX8.out
                    rw [HXE.out] at hxx
                    have f5 := hxx.cell 5
                    clear hx1 hx2 hbw hml ho8 hk8 hxx
                    go_wp2_with (at_builtin; refine wpList_append_w rfl _ _ _ _ rfl _ _ rfl rfl _ _ hr8 ?_)
                    go_roundw
                    case rel => exact ⟨q + 1, m + 1, p8, c8, by omega, by go_num, rfl, by rw [HOF.out, HEN.out.1], by rw [HOF.out, HEN.out.2], by rw [Hid, HOF.out, List.length_append, HM.out]; rfl, by rw [Hid, HOF.out]; exact HO8.out, HB8.out⟩
                    case measure => simp [intOf]; omega
              · skip
                have hbf : (x.g == G) = false := by rw [beq_eq_false_iff_ne]; exact h2
                have HIS : Hid (x.is K I G = false) := by rw [Hid]; unfold Att.is; rw [decide_eq_false_iff_not]; rintro ⟨k1, k2, k3⟩; exact h2 (by assumption)
                rw [h0] at e1
                rw [h1] at e2
                have d0 := (HOX.out.below (bel_new wr (.cells #[.int .i64 x.t, .int .i64 K, .int .i64 I, .int .u32 x.g, .int .i64 x.y, .int .i64 x.n] 32))).cell 0
                have d1 := (HOX.out.below (bel_new wr (.cells #[.int .i64 x.t, .int .i64 K, .int .i64 I, .int .u32 x.g, .int .i64 x.y, .int .i64 x.n] 32))).cell 1
                have d2 := (HOX.out.below (bel_new wr (.cells #[.int .i64 x.t, .int .i64 K, .int .i64 I, .int .u32 x.g, .int .i64 x.y, .int .i64 x.n] 32))).cell 2
                have HOF : Hid (ofL (L.take (q + 1)) K I G = ofL (L.take q) K I G) := by rw [Hid, HS1.out, HIS.out, if_neg (by decide), List.append_nil]
                go_wp2
                go_roundw
                case rel => exact ⟨q + 1, m, pv, cv, by omega, by go_num, rfl, by rw [HOF.out], by rw [HOF.out], by rw [Hid, HOF.out]; exact HM.out, by rw [Hid, HOF.out]; exact own_below HO.out (bel_new _ _), bel2 HB.out (bel_new _ _)⟩
                case measure => simp [intOf]; omega
            · skip
              have hbf : (x.i == I) = false := by rw [beq_eq_false_iff_ne]; exact h1
              have HIS : Hid (x.is K I G = false) := by rw [Hid]; unfold Att.is; rw [decide_eq_false_iff_not]; rintro ⟨k1, k2, k3⟩; exact h1 (by assumption)
              rw [h0] at e1
              have d0 := (HOX.out.below (bel_new wr (.cells #[.int .i64 x.t, .int .i64 K, .int .i64 x.i, .int .u32 x.g, .int .i64 x.y, .int .i64 x.n] 32))).cell 0
              have d1 := (HOX.out.below (bel_new wr (.cells #[.int .i64 x.t, .int .i64 K, .int .i64 x.i, .int .u32 x.g, .int .i64 x.y, .int .i64 x.n] 32))).cell 1
              have d2 := (HOX.out.below (bel_new wr (.cells #[.int .i64 x.t, .int .i64 K, .int .i64 x.i, .int .u32 x.g, .int .i64 x.y, .int .i64 x.n] 32))).cell 2
              have HOF : Hid (ofL (L.take (q + 1)) K I G = ofL (L.take q) K I G) := by rw [Hid, HS1.out, HIS.out, if_neg (by decide), List.append_nil]
              go_wp2
              go_roundw
              case rel => exact ⟨q + 1, m, pv, cv, by omega, by go_num, rfl, by rw [HOF.out], by rw [HOF.out], by rw [Hid, HOF.out]; exact HM.out, by rw [Hid, HOF.out]; exact own_below HO.out (bel_new _ _), bel2 HB.out (bel_new _ _)⟩
              case measure => simp [intOf]; omega
          · skip
            have hbf : (x.k == K) = false := by rw [beq_eq_false_iff_ne]; exact h0
            have HIS : Hid (x.is K I G = false) := by rw [Hid]; unfold Att.is; rw [decide_eq_false_iff_not]; rintro ⟨k1, k2, k3⟩; exact h0 (by assumption)
            have d0 := (HOX.out.below (bel_new wr (.cells #[.int .i64 x.t, .int .i64 x.k, .int .i64 x.i, .int .u32 x.g, .int .i64 x.y, .int .i64 x.n] 32))).cell 0
            have d1 := (HOX.out.below (bel_new wr (.cells #[.int .i64 x.t, .int .i64 x.k, .int .i64 x.i, .int .u32 x.g, .int .i64 x.y, .int .i64 x.n] 32))).cell 1
            have d2 := (HOX.out.below (bel_new wr (.cells #[.int .i64 x.t, .int .i64 x.k, .int .i64 x.i, .int .u32 x.g, .int .i64 x.y, .int .i64 x.n] 32))).cell 2
            have HOF : Hid (ofL (L.take (q + 1)) K I G = ofL (L.take q) K I G) := by rw [Hid, HS1.out, HIS.out, if_neg (by decide), List.append_nil]
            go_wp2
            go_roundw
            case rel => exact ⟨q + 1, m, pv, cv, by omega, by go_num, rfl, by rw [HOF.out], by rw [HOF.out], by rw [Hid, HOF.out]; exact HM.out, by rw [Hid, HOF.out]; exact own_below HO.out (bel_new _ _), bel2 HB.out (bel_new _ _)⟩
            case measure => simp [intOf]; omega
        · obtain rfl : q = N := by omega
          clear hlq
          have htk : L.take q = L := by rw [← HN.out, List.take_length]
          rw [htk] at HM HO ⊢
          obtain ⟨M, hMM⟩ : ∃ M, ofL L K I G = M := ⟨_, rfl⟩
          rw [hMM] at HM HO ⊢
          have HMM := Lib.hid hMM
          clear hMM htk
          have d0 := HOX.out.cell 0
          have d1 := HOX.out.cell 1
          have d2 := HOX.out.cell 2
          go_wp2_with fail
          refine (ended_ok b bk _ L K I G HRO.out wr HW.out.led).mono ?_
          rintro e w5 ⟨rfl, hb5⟩
          rw [HMM.out]
          have HW5 := Lib.hid (HW.out.below hb5)
          have HOX5 := Lib.hid (HOX.out.below hb5)
          have HR5 := Lib.hid (RdA.of_own (own_below HO.out hb5))
          clear d0 d1 d2 hb5 HW HOX HO HB HW1 HOX1
          generalize endOf M = E
          generalize isEnd M = D
          have d0 := HOX5.out.cell 0
          have d1 := HOX5.out.cell 1
          have d2 := HOX5.out.cell 2
          go_wp2_with fail
          refine (first_ok b bk _ L K I G HRO.out w5 HW5.out.led).mono ?_
          rintro e w6 ⟨rfl, hb6⟩
          rw [HMM.out]
          clear d0 d1 d2
          cases M with
          | nil =>
            obtain rfl : m = 0 := HM.out.symm
            rw [show (firstOf []).val = .agg #[.int .i64 0, .int .i64 0, .int .i64 0, .int .u32 0, .int .i64 0, .int .i64 0] from rfl, show ([] : List Att).isEmpty = true from rfl]
            have hb7 := bel2 hb6 (bel_new w6 (.cells #[.int .i64 0, .int .i64 0, .int .i64 0, .int .u32 0, .int .i64 0, .int .i64 0] 32))
            have HW7 := Lib.hid (HW5.out.below hb7)
            have HOX7 := Lib.hid (HOX5.out.below hb7)
            have HR7 := Lib.hid (HR5.out.below hb7)
            have HFX7 := Lib.hid (Bk.new w6 32 #[.int .i64 0, .int .i64 0, .int .i64 0, .int .u32 0, .int .i64 0, .int .i64 0])
            clear hb6 hb7 HW5 HOX5 HR5
            go_wp2
            generalize w6.alloc (.cells #[.int .i64 0, .int .i64 0, .int .i64 0, .int .u32 0, .int .i64 0, .int .i64 0] 32) = w7 at *
            have HS : Hid (∀ W, Below w7.heap.size w7 W → (W.cell? ⟨ob, 0, none⟩ = some (.int .i64 K) ∧ W.cell? ⟨ob, 1, none⟩ = some (.int .i64 I) ∧ W.cell? ⟨ob, 2, none⟩ = some (.int .u32 G) ∧ W.cell? ⟨w6.heap.size, 0, none⟩ = some (.int .i64 0) ∧ W.cell? ⟨w6.heap.size, 1, none⟩ = some (.int .i64 0) ∧ W.cell? ⟨w6.heap.size, 2, none⟩ = some (.int .i64 0) ∧ W.cell? ⟨w6.heap.size, 3, none⟩ = some (.int .u32 0) ∧ W.cell? ⟨w6.heap.size, 4, none⟩ = some (.int .i64 0) ∧ W.cell? ⟨w6.heap.size, 5, none⟩ = some (.int .i64 0))) := fun W hW => by
              have h1 := HOX7.out.below hW
              have h2 := HFX7.out.below hW
              exact ⟨h1.cell 0, h1.cell 1, h1.cell 2, h2.cell 0, h2.cell 1, h2.cell 2, h2.cell 3, h2.cell 4, h2.cell 5⟩
            have HD0 : Hid (Below w7.heap.size w7 w7.drew) := bel_drew (Below.refl _ _)
            have hz0 := HS.out _ HD0.out
            refine wp_region_held_drew (S := fun W => W.cell? ⟨ob, 0, none⟩ = some (.int .i64 K) ∧ W.cell? ⟨ob, 1, none⟩ = some (.int .i64 I) ∧ W.cell? ⟨ob, 2, none⟩ = some (.int .u32 G) ∧ W.cell? ⟨w6.heap.size, 0, none⟩ = some (.int .i64 0) ∧ W.cell? ⟨w6.heap.size, 1, none⟩ = some (.int .i64 0) ∧ W.cell? ⟨w6.heap.size, 2, none⟩ = some (.int .i64 0) ∧ W.cell? ⟨w6.heap.size, 3, none⟩ = some (.int .u32 0) ∧ W.cell? ⟨w6.heap.size, 4, none⟩ = some (.int .i64 0) ∧ W.cell? ⟨w6.heap.size, 5, none⟩ = some (.int .i64 0)) (by kernel_rfl) hz0 (fun hHeld => ?_)
            refine' take_y (i := 0) rfl (by kernel_rfl) (by kernel_rfl) (by kernel_rfl) (fun _ _ _ h => h) (by rfl) ?hy0 (by assumption) ?rest0
            case hy0 => (intro w hSw; (try dsimp only at hSw); go_simp <;> with_reducible rfl)
            try simp only [Act.put, List.setIfInBounds_toArray, List.set_cons_zero, List.set_cons_succ]
            refine' take_y (i := 3) rfl (by kernel_rfl) (by kernel_rfl) (by kernel_rfl) (fun _ _ _ h => h) (by rfl) ?hy3 (by assumption) ?rest3
            case hy3 => (intro w hSw; (try dsimp only at hSw); go_simp <;> with_reducible rfl)
            try simp only [Act.put, List.setIfInBounds_toArray, List.set_cons_zero, List.set_cons_succ]
            refine' take_y (i := 1) rfl (by kernel_rfl) (by kernel_rfl) (by kernel_rfl) (fun _ _ _ h => h) (by rfl) ?hy1 (by assumption) ?rest1
            case hy1 => (intro w hSw; (try dsimp only at hSw); go_simp <;> with_reducible rfl)
            try simp only [Act.put, List.setIfInBounds_toArray, List.set_cons_zero, List.set_cons_succ]
            refine' ready_1 (i := 2) rfl (by kernel_rfl) (by rfl) (fun KK hKK => ?call2)
            go_simp
            (go_at_call 27; refine (ofs_ok b bk _ L K I G HRO.out w7.drew (HW7.out.below HD0.out).led).mono ?_; rintro e wa ⟨va, rfl, hoa, hba⟩; rw [HMM.out] at hoa; obtain ⟨pb, nb, cb, rfl⟩ : ∃ pb nb cb, va = .slice pb nb cb := (by obtain ⟨q, k, h⟩ := rd_slice (RdA.of_own hoa); exact ⟨_, _, _, h⟩); have HDa := Lib.hid (bel2 HD0.out hba); have HRa := Lib.hid (RdA.of_own hoa); have hza := HS.out _ HDa.out; clear hoa hba hz0)
            (try go_wp2_with fail)
            refine hKK.out _ _ ?_ (fun hHeld => ?_)
            · exact hza
            clear hKK KK
            try simp only [Act.put, List.setIfInBounds_toArray, List.set_cons_zero, List.set_cons_succ]
            refine' ready_1 (i := 4) rfl (by kernel_rfl) (by rfl) (fun KK hKK => ?call4)
            go_simp
            (go_at_call 26; refine (equal_yes _ _ _ _ _ _ [] _ HRa.out (HR7.out.below HDa.out)).mono ?_; rintro e wb ⟨rfl, hbb⟩; have HDb := Lib.hid (bel2 HDa.out hbb); have hzb := HS.out _ HDb.out; clear hbb hza)
            (try go_wp2_with fail)
            refine hKK.out _ _ ?_ (fun hHeld => ?_)
            · exact hzb
            clear hKK KK
            try simp only [Act.put, List.setIfInBounds_toArray, List.set_cons_zero, List.set_cons_succ]
            refine' take_y (i := 5) rfl (by kernel_rfl) (by kernel_rfl) (by kernel_rfl) (fun _ _ _ h => h) (by rfl) ?hy5 (by assumption) ?rest5
            case hy5 => (intro w hSw; (try dsimp only at hSw); go_simp <;> with_reducible rfl)
            try simp only [Act.put, List.setIfInBounds_toArray, List.set_cons_zero, List.set_cons_succ]
            refine' take_y (i := 6) rfl (by kernel_rfl) (by kernel_rfl) (by kernel_rfl) (fun _ _ _ h => h) (by rfl) ?hy6 (by assumption) ?rest6
            case hy6 => (intro w hSw; (try dsimp only at hSw); go_simp <;> with_reducible rfl)
            try simp only [Act.put, List.setIfInBounds_toArray, List.set_cons_zero, List.set_cons_succ]
            refine' take_y (i := 7) rfl (by kernel_rfl) (by kernel_rfl) (by kernel_rfl) (fun _ _ _ h => h) (by rfl) ?hy7 (by assumption) ?rest7
            case hy7 => (intro w hSw; (try dsimp only at hSw); go_simp <;> with_reducible rfl)
            try simp only [Act.put, List.setIfInBounds_toArray, List.set_cons_zero, List.set_cons_succ]
            refine' take_y (i := 8) rfl (by kernel_rfl) (by kernel_rfl) (by kernel_rfl) (fun _ _ _ h => h) (by rfl) ?hy8 (by assumption) ?rest8
            case hy8 => (intro w hSw; (try dsimp only at hSw); go_simp <;> with_reducible rfl)
            try simp only [Act.put, List.setIfInBounds_toArray, List.set_cons_zero, List.set_cons_succ]
            refine' take_y (i := 9) rfl (by kernel_rfl) (by kernel_rfl) (by kernel_rfl) (fun _ _ _ h => h) (by rfl) ?hy9 (by assumption) ?rest9
            case hy9 => (intro w hSw; (try dsimp only at hSw); go_simp <;> with_reducible rfl)
            try simp only [Act.put, List.setIfInBounds_toArray, List.set_cons_zero, List.set_cons_succ]
            refine' take_y (i := 10) rfl (by kernel_rfl) (by kernel_rfl) (by kernel_rfl) (fun _ _ _ h => h) (by rfl) ?hy10 (by assumption) ?rest10
            case hy10 => (intro w hSw; (try dsimp only at hSw); go_simp <;> with_reducible rfl)
            try simp only [Act.put, List.setIfInBounds_toArray, List.set_cons_zero, List.set_cons_succ]
            refine' take_y (i := 11) rfl (by kernel_rfl) (by kernel_rfl) (by kernel_rfl) (fun _ _ _ h => h) (by rfl) ?hy11 (by assumption) ?rest11
            case hy11 => (intro w hSw; (try dsimp only at hSw); go_simp <;> with_reducible rfl)
            try simp only [Act.put, List.setIfInBounds_toArray, List.set_cons_zero, List.set_cons_succ]
            refine' take_y (i := 12) rfl (by kernel_rfl) (by kernel_rfl) (by kernel_rfl) (fun _ _ _ h => h) (by rfl) ?hy12 (by assumption) ?rest12
            case hy12 => (intro w hSw; (try dsimp only at hSw); go_simp <;> with_reducible rfl)
            try simp only [Act.put, List.setIfInBounds_toArray, List.set_cons_zero, List.set_cons_succ]
            refine' take_y (i := 13) rfl (by kernel_rfl) (by kernel_rfl) (by kernel_rfl) (fun _ _ _ h => h) (by rfl) ?hy13 (by assumption) ?rest13
            case hy13 => (intro w hSw; (try dsimp only at hSw); go_simp <;> with_reducible rfl)
            try simp only [Act.put, List.setIfInBounds_toArray, List.set_cons_zero, List.set_cons_succ]
            refine' take_y (i := 14) rfl (by kernel_rfl) (by kernel_rfl) (by kernel_rfl) (fun _ _ _ h => h) (by rfl) ?hy14 (by assumption) ?rest14
            case hy14 => (intro w hSw; (try dsimp only at hSw); go_simp <;> with_reducible rfl)
            try simp only [Act.put, List.setIfInBounds_toArray, List.set_cons_zero, List.set_cons_succ]
            refine' take_y (i := 15) rfl (by kernel_rfl) (by kernel_rfl) (by kernel_rfl) (fun _ _ _ h => h) (by rfl) ?hy15 (by assumption) ?rest15
            case hy15 => (intro w hSw; (try dsimp only at hSw); go_simp <;> with_reducible rfl)
            try simp only [Act.put, List.setIfInBounds_toArray, List.set_cons_zero, List.set_cons_succ]
            refine' take_y (i := 16) rfl (by kernel_rfl) (by kernel_rfl) (by kernel_rfl) (fun _ _ _ h => h) (by rfl) ?hy16 (by assumption) ?rest16
            case hy16 => (intro w hSw; (try dsimp only at hSw); go_simp <;> with_reducible rfl)
            try simp only [Act.put, List.setIfInBounds_toArray, List.set_cons_zero, List.set_cons_succ]
            refine' take_y (i := 17) rfl (by kernel_rfl) (by kernel_rfl) (by kernel_rfl) (fun _ _ _ h => h) (by rfl) ?hy17 (by assumption) ?rest17
            case hy17 => (intro w hSw; (try dsimp only at hSw); go_simp <;> with_reducible rfl)
            try simp only [Act.put, List.setIfInBounds_toArray, List.set_cons_zero, List.set_cons_succ]
            refine' take_y (i := 18) rfl (by kernel_rfl) (by kernel_rfl) (by kernel_rfl) (fun _ _ _ h => h) (by rfl) ?hy18 (by assumption) ?rest18
            case hy18 => (intro w hSw; (try dsimp only at hSw); go_simp <;> with_reducible rfl)
            try simp only [Act.put, List.setIfInBounds_toArray, List.set_cons_zero, List.set_cons_succ]
            refine' take_y (i := 19) rfl (by kernel_rfl) (by kernel_rfl) (by kernel_rfl) (fun _ _ _ h => h) (by rfl) ?hy19 (by assumption) ?rest19
            case hy19 => (intro w hSw; (try dsimp only at hSw); go_simp <;> with_reducible rfl)
            try simp only [Act.put, List.setIfInBounds_toArray, List.set_cons_zero, List.set_cons_succ]
            refine' take_y (i := 20) rfl (by kernel_rfl) (by kernel_rfl) (by kernel_rfl) (fun _ _ _ h => h) (by rfl) ?hy20 (by assumption) ?rest20
            case hy20 => (intro w hSw; (try dsimp only at hSw); go_simp <;> with_reducible rfl)
            try simp only [Act.put, List.setIfInBounds_toArray, List.set_cons_zero, List.set_cons_succ]
            refine' take_y (i := 21) rfl (by kernel_rfl) (by kernel_rfl) (by kernel_rfl) (fun _ _ _ h => h) (by rfl) ?hy21 (by assumption) ?rest21
            case hy21 => (intro w hSw; (try dsimp only at hSw); go_simp <;> with_reducible rfl)
            try simp only [Act.put, List.setIfInBounds_toArray, List.set_cons_zero, List.set_cons_succ]
            refine' take_y (i := 22) rfl (by kernel_rfl) (by kernel_rfl) (by kernel_rfl) (fun _ _ _ h => h) (by rfl) ?hy22 (by assumption) ?rest22
            case hy22 => (intro w hSw; (try dsimp only at hSw); go_simp <;> with_reducible rfl)
            try simp only [Act.put, List.setIfInBounds_toArray, List.set_cons_zero, List.set_cons_succ]
            refine' take_y (i := 23) rfl (by kernel_rfl) (by kernel_rfl) (by kernel_rfl) (fun _ _ _ h => h) (by rfl) ?hy23 (by assumption) ?rest23
            case hy23 => (intro w hSw; (try dsimp only at hSw); go_simp <;> with_reducible rfl)
            try simp only [Act.put, List.setIfInBounds_toArray, List.set_cons_zero, List.set_cons_succ]
            refine' take_y (i := 24) rfl (by kernel_rfl) (by kernel_rfl) (by kernel_rfl) (fun _ _ _ h => h) (by rfl) ?hy24 (by assumption) ?rest24
            case hy24 => (intro w hSw; (try dsimp only at hSw); go_simp <;> with_reducible rfl)
            try simp only [Act.put, List.setIfInBounds_toArray, List.set_cons_zero, List.set_cons_succ]
            refine' take_y (i := 25) rfl (by kernel_rfl) (by kernel_rfl) (by kernel_rfl) (fun _ _ _ h => h) (by rfl) ?hy25 (by assumption) ?rest25
            case hy25 => (intro w hSw; (try dsimp only at hSw); go_simp <;> with_reducible rfl)
            try simp only [Act.put, List.setIfInBounds_toArray, List.set_cons_zero, List.set_cons_succ]
            refine' take_n (i := 26) rfl (by kernel_rfl) (by kernel_rfl) (by kernel_rfl) (fun _ _ _ h => h) (by rfl) (by assumption) ?rest26
            try simp only [Act.put, List.setIfInBounds_toArray, List.set_cons_zero, List.set_cons_succ]
            refine' take_n (i := 27) rfl (by kernel_rfl) (by kernel_rfl) (by kernel_rfl) (fun _ _ _ h => h) (by rfl) (by assumption) ?rest27
            try simp only [Act.put, List.setIfInBounds_toArray, List.set_cons_zero, List.set_cons_succ]
            refine' take_n (i := 28) rfl (by kernel_rfl) (by kernel_rfl) (by kernel_rfl) (fun _ _ _ h => h) (by rfl) (by assumption) ?rest28
            try simp only [Act.put, List.setIfInBounds_toArray, List.set_cons_zero, List.set_cons_succ]
            refine' take_n (i := 29) rfl (by kernel_rfl) (by kernel_rfl) (by kernel_rfl) (fun _ _ _ h => h) (by rfl) (by assumption) ?rest29
            try simp only [Act.put, List.setIfInBounds_toArray, List.set_cons_zero, List.set_cons_succ]
            refine' take_n (i := 30) rfl (by kernel_rfl) (by kernel_rfl) (by kernel_rfl) (fun _ _ _ h => h) (by rfl) (by assumption) ?rest30
            try simp only [Act.put, List.setIfInBounds_toArray, List.set_cons_zero, List.set_cons_succ]
            refine' take_y (i := 31) rfl (by kernel_rfl) (by kernel_rfl) (by kernel_rfl) (fun _ _ _ h => h) (by rfl) ?hy31 (by assumption) ?rest31
            case hy31 => (intro w hSw; (try dsimp only at hSw); go_simp <;> with_reducible rfl)
            try simp only [Act.put, List.setIfInBounds_toArray, List.set_cons_zero, List.set_cons_succ]
            refine' take_y (i := 32) rfl (by kernel_rfl) (by kernel_rfl) (by kernel_rfl) (fun _ _ _ h => h) (by rfl) ?hy32 (by assumption) ?rest32
            case hy32 => (intro w hSw; (try dsimp only at hSw); go_simp <;> with_reducible rfl)
            try simp only [Act.put, List.setIfInBounds_toArray, List.set_cons_zero, List.set_cons_succ]
            refine' take_y (i := 33) rfl (by kernel_rfl) (by kernel_rfl) (by kernel_rfl) (fun _ _ _ h => h) (by rfl) ?hy33 (by assumption) ?rest33
            case hy33 => (intro w hSw; (try dsimp only at hSw); go_simp <;> with_reducible rfl)
            try simp only [Act.put, List.setIfInBounds_toArray, List.set_cons_zero, List.set_cons_succ]
            refine' take_y (i := 34) rfl (by kernel_rfl) (by kernel_rfl) (by kernel_rfl) (fun _ _ _ h => h) (by rfl) ?hy34 (by assumption) ?rest34
            case hy34 => (intro w hSw; (try dsimp only at hSw); go_simp <;> with_reducible rfl)
            try simp only [Act.put, List.setIfInBounds_toArray, List.set_cons_zero, List.set_cons_succ]
            refine' take_y (i := 35) rfl (by kernel_rfl) (by kernel_rfl) (by kernel_rfl) (fun _ _ _ h => h) (by rfl) ?hy35 (by assumption) ?rest35
            case hy35 => (intro w hSw; (try dsimp only at hSw); go_simp <;> with_reducible rfl)
            try simp only [Act.put, List.setIfInBounds_toArray, List.set_cons_zero, List.set_cons_succ]
            refine' take_y (i := 36) rfl (by kernel_rfl) (by kernel_rfl) (by kernel_rfl) (fun _ _ _ h => h) (by rfl) ?hy36 (by assumption) ?rest36
            case hy36 => (intro w hSw; (try dsimp only at hSw); go_simp <;> with_reducible rfl)
            try simp only [Act.put, List.setIfInBounds_toArray, List.set_cons_zero, List.set_cons_succ]
            refine' take_y (i := 37) rfl (by kernel_rfl) (by kernel_rfl) (by kernel_rfl) (fun _ _ _ h => h) (by rfl) ?hy37 (by assumption) ?rest37
            case hy37 => (intro w hSw; (try dsimp only at hSw); go_simp <;> with_reducible rfl)
            try simp only [Act.put, List.setIfInBounds_toArray, List.set_cons_zero, List.set_cons_succ]
            refine' take_y (i := 38) rfl (by kernel_rfl) (by kernel_rfl) (by kernel_rfl) (fun _ _ _ h => h) (by rfl) ?hy38 (by assumption) ?rest38
            case hy38 => (intro w hSw; (try dsimp only at hSw); go_simp <;> with_reducible rfl)
            try simp only [Act.put, List.setIfInBounds_toArray, List.set_cons_zero, List.set_cons_succ]
            refine' take_y (i := 39) rfl (by kernel_rfl) (by kernel_rfl) (by kernel_rfl) (fun _ _ _ h => h) (by rfl) ?hy39 (by assumption) ?rest39
            case hy39 => (intro w hSw; (try dsimp only at hSw); go_simp <;> with_reducible rfl)
            try simp only [Act.put, List.setIfInBounds_toArray, List.set_cons_zero, List.set_cons_succ]
            refine' take_y (i := 40) rfl (by kernel_rfl) (by kernel_rfl) (by kernel_rfl) (fun _ _ _ h => h) (by rfl) ?hy40 (by assumption) ?rest40
            case hy40 => (intro w hSw; (try dsimp only at hSw); go_simp <;> with_reducible rfl)
            try simp only [Act.put, List.setIfInBounds_toArray, List.set_cons_zero, List.set_cons_succ]
            refine' take_y (i := 41) rfl (by kernel_rfl) (by kernel_rfl) (by kernel_rfl) (fun _ _ _ h => h) (by rfl) ?hy41 (by assumption) ?rest41
            case hy41 => (intro w hSw; (try dsimp only at hSw); go_simp <;> with_reducible rfl)
            try simp only [Act.put, List.setIfInBounds_toArray, List.set_cons_zero, List.set_cons_succ]
            refine wpAnyH_done (by kernel_rfl) ?_ _
            all_goals
              have HWb := Lib.hid (HW7.out.below HDb.out)
              clear hzb HS HD0 HDa HDb HW7 HOX7 HR7 HFX7
              go_wp2
              go_roundw
              case rel => exact ⟨j + 1, by omega, by go_num, by rw [HCS.out, HMM.out]; go_num, HWb.out⟩
              case measure => simp [intOf]; omega
          | cons z R =>
            obtain ⟨mm, rfl⟩ : ∃ mm, m = mm + 1 := ⟨R.length, by rw [← HM.out]; rfl⟩
            rw [show (firstOf (z :: R)).val = .agg #[.int .i64 z.t, .int .i64 z.k, .int .i64 z.i, .int .u32 z.g, .int .i64 z.y, .int .i64 z.n] from rfl, show (z :: R).isEmpty = false from rfl]
            obtain ⟨g8, o8, rfl, hg8, _⟩ := HR5.out.cell (j := 0) (by simp)
            clear hg8
            have hb7 := bel2 hb6 (bel_new w6 (.cells #[.int .i64 z.t, .int .i64 z.k, .int .i64 z.i, .int .u32 z.g, .int .i64 z.y, .int .i64 z.n] 32))
            have HW7 := Lib.hid (HW5.out.below hb7)
            have HOX7 := Lib.hid (HOX5.out.below hb7)
            have HR7 := Lib.hid (HR5.out.below hb7)
            have HFX7 := Lib.hid (Bk.new w6 32 #[.int .i64 z.t, .int .i64 z.k, .int .i64 z.i, .int .u32 z.g, .int .i64 z.y, .int .i64 z.n])
            clear hb6 hb7 HW5 HOX5 HR5
            go_wp2
            generalize w6.alloc (.cells #[.int .i64 z.t, .int .i64 z.k, .int .i64 z.i, .int .u32 z.g, .int .i64 z.y, .int .i64 z.n] 32) = w7 at *
            have HS : Hid (∀ W, Below w7.heap.size w7 W → (W.cell? ⟨ob, 0, none⟩ = some (.int .i64 K) ∧ W.cell? ⟨ob, 1, none⟩ = some (.int .i64 I) ∧ W.cell? ⟨ob, 2, none⟩ = some (.int .u32 G) ∧ W.cell? ⟨w6.heap.size, 0, none⟩ = some (.int .i64 z.t) ∧ W.cell? ⟨w6.heap.size, 1, none⟩ = some (.int .i64 z.k) ∧ W.cell? ⟨w6.heap.size, 2, none⟩ = some (.int .i64 z.i) ∧ W.cell? ⟨w6.heap.size, 3, none⟩ = some (.int .u32 z.g) ∧ W.cell? ⟨w6.heap.size, 4, none⟩ = some (.int .i64 z.y) ∧ W.cell? ⟨w6.heap.size, 5, none⟩ = some (.int .i64 z.n) ∧ W.cell? ⟨g8, o8, none⟩ = some (.int .i64 z.t) ∧ W.cell? ⟨g8, o8 + 1, none⟩ = some (.int .i64 z.k) ∧ W.cell? ⟨g8, o8 + 2, none⟩ = some (.int .i64 z.i) ∧ W.cell? ⟨g8, o8 + 3, none⟩ = some (.int .u32 z.g) ∧ W.cell? ⟨g8, o8 + 4, none⟩ = some (.int .i64 z.y) ∧ W.cell? ⟨g8, o8 + 5, none⟩ = some (.int .i64 z.n))) := fun W hW => by
              have h1 := HOX7.out.below hW
              have h2 := HFX7.out.below hW
              obtain ⟨g', o', e', _, k0, k1, k2, k3, k4, k5⟩ := (HR7.out.below hW).cell (j := 0) (by simp)
              injection e' with e'
              injection e' with e1 e2
              subst e1 e2
              simp only [Nat.zero_mul, Nat.add_zero, List.getElem_cons_zero] at k0 k1 k2 k3 k4 k5
              exact ⟨h1.cell 0, h1.cell 1, h1.cell 2, h2.cell 0, h2.cell 1, h2.cell 2, h2.cell 3, h2.cell 4, h2.cell 5, k0, k1, k2, k3, k4, k5⟩
            have HD0 : Hid (Below w7.heap.size w7 w7.drew) := bel_drew (Below.refl _ _)
            have hz0 := HS.out _ HD0.out
            refine wp_region_held_drew (S := fun W => W.cell? ⟨ob, 0, none⟩ = some (.int .i64 K) ∧ W.cell? ⟨ob, 1, none⟩ = some (.int .i64 I) ∧ W.cell? ⟨ob, 2, none⟩ = some (.int .u32 G) ∧ W.cell? ⟨w6.heap.size, 0, none⟩ = some (.int .i64 z.t) ∧ W.cell? ⟨w6.heap.size, 1, none⟩ = some (.int .i64 z.k) ∧ W.cell? ⟨w6.heap.size, 2, none⟩ = some (.int .i64 z.i) ∧ W.cell? ⟨w6.heap.size, 3, none⟩ = some (.int .u32 z.g) ∧ W.cell? ⟨w6.heap.size, 4, none⟩ = some (.int .i64 z.y) ∧ W.cell? ⟨w6.heap.size, 5, none⟩ = some (.int .i64 z.n) ∧ W.cell? ⟨g8, o8, none⟩ = some (.int .i64 z.t) ∧ W.cell? ⟨g8, o8 + 1, none⟩ = some (.int .i64 z.k) ∧ W.cell? ⟨g8, o8 + 2, none⟩ = some (.int .i64 z.i) ∧ W.cell? ⟨g8, o8 + 3, none⟩ = some (.int .u32 z.g) ∧ W.cell? ⟨g8, o8 + 4, none⟩ = some (.int .i64 z.y) ∧ W.cell? ⟨g8, o8 + 5, none⟩ = some (.int .i64 z.n)) (by kernel_rfl) hz0 (fun hHeld => ?_)
            refine' take_y (i := 0) rfl (by kernel_rfl) (by kernel_rfl) (by kernel_rfl) (fun _ _ _ h => h) (by rfl) ?hy100 (by assumption) ?rest100
            case hy100 => (intro w hSw; (try dsimp only at hSw); go_simp <;> with_reducible rfl)
            try simp only [Act.put, List.setIfInBounds_toArray, List.set_cons_zero, List.set_cons_succ]
            refine' take_y (i := 3) rfl (by kernel_rfl) (by kernel_rfl) (by kernel_rfl) (fun _ _ _ h => h) (by rfl) ?hy103 (by assumption) ?rest103
            case hy103 => (intro w hSw; (try dsimp only at hSw); go_simp <;> with_reducible rfl)
            try simp only [Act.put, List.setIfInBounds_toArray, List.set_cons_zero, List.set_cons_succ]
            refine' take_y (i := 1) rfl (by kernel_rfl) (by kernel_rfl) (by kernel_rfl) (fun _ _ _ h => h) (by rfl) ?hy101 (by assumption) ?rest101
            case hy101 => (intro w hSw; (try dsimp only at hSw); go_simp <;> with_reducible rfl)
            try simp only [Act.put, List.setIfInBounds_toArray, List.set_cons_zero, List.set_cons_succ]
            refine' ready_1 (i := 2) rfl (by kernel_rfl) (by rfl) (fun KK hKK => ?call102)
            go_simp
            (go_at_call 27; refine (ofs_ok b bk _ L K I G HRO.out w7.drew (HW7.out.below HD0.out).led).mono ?_; rintro e wa ⟨va, rfl, hoa, hba⟩; rw [HMM.out] at hoa; obtain ⟨pb, nb, cb, rfl⟩ : ∃ pb nb cb, va = .slice pb nb cb := (by obtain ⟨q, k, h⟩ := rd_slice (RdA.of_own hoa); exact ⟨_, _, _, h⟩); have HDa := Lib.hid (bel2 HD0.out hba); have HRa := Lib.hid (RdA.of_own hoa); have hza := HS.out _ HDa.out; clear hoa hba hz0)
            (try go_wp2_with fail)
            refine hKK.out _ _ ?_ (fun hHeld => ?_)
            · exact hza
            clear hKK KK
            try simp only [Act.put, List.setIfInBounds_toArray, List.set_cons_zero, List.set_cons_succ]
            refine' ready_1 (i := 4) rfl (by kernel_rfl) (by rfl) (fun KK hKK => ?call104)
            go_simp
            (go_at_call 26; refine (equal_yes _ _ _ _ _ _ (z :: R) _ HRa.out (HR7.out.below HDa.out)).mono ?_; rintro e wb ⟨rfl, hbb⟩; have HDb := Lib.hid (bel2 HDa.out hbb); have hzb := HS.out _ HDb.out; clear hbb hza)
            (try go_wp2_with fail)
            refine hKK.out _ _ ?_ (fun hHeld => ?_)
            · exact hzb
            clear hKK KK
            try simp only [Act.put, List.setIfInBounds_toArray, List.set_cons_zero, List.set_cons_succ]
            refine' take_y (i := 5) rfl (by kernel_rfl) (by kernel_rfl) (by kernel_rfl) (fun _ _ _ h => h) (by rfl) ?hy105 (by assumption) ?rest105
            case hy105 => (intro w hSw; (try dsimp only at hSw); go_simp <;> with_reducible rfl)
            try simp only [Act.put, List.setIfInBounds_toArray, List.set_cons_zero, List.set_cons_succ]
            refine' take_y (i := 6) rfl (by kernel_rfl) (by kernel_rfl) (by kernel_rfl) (fun _ _ _ h => h) (by rfl) ?hy106 (by assumption) ?rest106
            case hy106 => (intro w hSw; (try dsimp only at hSw); go_simp <;> with_reducible rfl)
            try simp only [Act.put, List.setIfInBounds_toArray, List.set_cons_zero, List.set_cons_succ]
            refine' take_y (i := 7) rfl (by kernel_rfl) (by kernel_rfl) (by kernel_rfl) (fun _ _ _ h => h) (by rfl) ?hy107 (by assumption) ?rest107
            case hy107 => (intro w hSw; (try dsimp only at hSw); go_simp <;> with_reducible rfl)
            try simp only [Act.put, List.setIfInBounds_toArray, List.set_cons_zero, List.set_cons_succ]
            refine' take_y (i := 8) rfl (by kernel_rfl) (by kernel_rfl) (by kernel_rfl) (fun _ _ _ h => h) (by rfl) ?hy108 (by assumption) ?rest108
            case hy108 => (intro w hSw; (try dsimp only at hSw); go_simp <;> with_reducible rfl)
            try simp only [Act.put, List.setIfInBounds_toArray, List.set_cons_zero, List.set_cons_succ]
            refine' take_y (i := 9) rfl (by kernel_rfl) (by kernel_rfl) (by kernel_rfl) (fun _ _ _ h => h) (by rfl) ?hy109 (by assumption) ?rest109
            case hy109 => (intro w hSw; (try dsimp only at hSw); go_simp <;> with_reducible rfl)
            try simp only [Act.put, List.setIfInBounds_toArray, List.set_cons_zero, List.set_cons_succ]
            refine' take_y (i := 10) rfl (by kernel_rfl) (by kernel_rfl) (by kernel_rfl) (fun _ _ _ h => h) (by rfl) ?hy110 (by assumption) ?rest110
            case hy110 => (intro w hSw; (try dsimp only at hSw); go_simp <;> with_reducible rfl)
            try simp only [Act.put, List.setIfInBounds_toArray, List.set_cons_zero, List.set_cons_succ]
            refine' take_y (i := 11) rfl (by kernel_rfl) (by kernel_rfl) (by kernel_rfl) (fun _ _ _ h => h) (by rfl) ?hy111 (by assumption) ?rest111
            case hy111 => (intro w hSw; (try dsimp only at hSw); go_simp <;> with_reducible rfl)
            try simp only [Act.put, List.setIfInBounds_toArray, List.set_cons_zero, List.set_cons_succ]
            refine' take_y (i := 12) rfl (by kernel_rfl) (by kernel_rfl) (by kernel_rfl) (fun _ _ _ h => h) (by rfl) ?hy112 (by assumption) ?rest112
            case hy112 => (intro w hSw; (try dsimp only at hSw); go_simp <;> with_reducible rfl)
            try simp only [Act.put, List.setIfInBounds_toArray, List.set_cons_zero, List.set_cons_succ]
            refine' take_y (i := 13) rfl (by kernel_rfl) (by kernel_rfl) (by kernel_rfl) (fun _ _ _ h => h) (by rfl) ?hy113 (by assumption) ?rest113
            case hy113 => (intro w hSw; (try dsimp only at hSw); go_simp <;> with_reducible rfl)
            try simp only [Act.put, List.setIfInBounds_toArray, List.set_cons_zero, List.set_cons_succ]
            refine' take_y (i := 14) rfl (by kernel_rfl) (by kernel_rfl) (by kernel_rfl) (fun _ _ _ h => h) (by rfl) ?hy114 (by assumption) ?rest114
            case hy114 => (intro w hSw; (try dsimp only at hSw); go_simp <;> with_reducible rfl)
            try simp only [Act.put, List.setIfInBounds_toArray, List.set_cons_zero, List.set_cons_succ]
            refine' take_y (i := 15) rfl (by kernel_rfl) (by kernel_rfl) (by kernel_rfl) (fun _ _ _ h => h) (by rfl) ?hy115 (by assumption) ?rest115
            case hy115 => (intro w hSw; (try dsimp only at hSw); go_simp <;> with_reducible rfl)
            try simp only [Act.put, List.setIfInBounds_toArray, List.set_cons_zero, List.set_cons_succ]
            refine' take_y (i := 16) rfl (by kernel_rfl) (by kernel_rfl) (by kernel_rfl) (fun _ _ _ h => h) (by rfl) ?hy116 (by assumption) ?rest116
            case hy116 => (intro w hSw; (try dsimp only at hSw); go_simp <;> with_reducible rfl)
            try simp only [Act.put, List.setIfInBounds_toArray, List.set_cons_zero, List.set_cons_succ]
            refine' take_y (i := 17) rfl (by kernel_rfl) (by kernel_rfl) (by kernel_rfl) (fun _ _ _ h => h) (by rfl) ?hy117 (by assumption) ?rest117
            case hy117 => (intro w hSw; (try dsimp only at hSw); go_simp <;> with_reducible rfl)
            try simp only [Act.put, List.setIfInBounds_toArray, List.set_cons_zero, List.set_cons_succ]
            refine' take_y (i := 18) rfl (by kernel_rfl) (by kernel_rfl) (by kernel_rfl) (fun _ _ _ h => h) (by rfl) ?hy118 (by assumption) ?rest118
            case hy118 => (intro w hSw; (try dsimp only at hSw); go_simp <;> with_reducible rfl)
            try simp only [Act.put, List.setIfInBounds_toArray, List.set_cons_zero, List.set_cons_succ]
            refine' take_y (i := 19) rfl (by kernel_rfl) (by kernel_rfl) (by kernel_rfl) (fun _ _ _ h => h) (by rfl) ?hy119 (by assumption) ?rest119
            case hy119 => (intro w hSw; (try dsimp only at hSw); go_simp <;> with_reducible rfl)
            try simp only [Act.put, List.setIfInBounds_toArray, List.set_cons_zero, List.set_cons_succ]
            refine' take_y (i := 20) rfl (by kernel_rfl) (by kernel_rfl) (by kernel_rfl) (fun _ _ _ h => h) (by rfl) ?hy120 (by assumption) ?rest120
            case hy120 => (intro w hSw; (try dsimp only at hSw); go_simp <;> with_reducible rfl)
            try simp only [Act.put, List.setIfInBounds_toArray, List.set_cons_zero, List.set_cons_succ]
            refine' take_y (i := 21) rfl (by kernel_rfl) (by kernel_rfl) (by kernel_rfl) (fun _ _ _ h => h) (by rfl) ?hy121 (by assumption) ?rest121
            case hy121 => (intro w hSw; (try dsimp only at hSw); go_simp <;> with_reducible rfl)
            try simp only [Act.put, List.setIfInBounds_toArray, List.set_cons_zero, List.set_cons_succ]
            refine' take_y (i := 22) rfl (by kernel_rfl) (by kernel_rfl) (by kernel_rfl) (fun _ _ _ h => h) (by rfl) ?hy122 (by assumption) ?rest122
            case hy122 => (intro w hSw; (try dsimp only at hSw); go_simp <;> with_reducible rfl)
            try simp only [Act.put, List.setIfInBounds_toArray, List.set_cons_zero, List.set_cons_succ]
            refine' take_y (i := 23) rfl (by kernel_rfl) (by kernel_rfl) (by kernel_rfl) (fun _ _ _ h => h) (by rfl) ?hy123 (by assumption) ?rest123
            case hy123 => (intro w hSw; (try dsimp only at hSw); go_simp <;> with_reducible rfl)
            try simp only [Act.put, List.setIfInBounds_toArray, List.set_cons_zero, List.set_cons_succ]
            refine' take_y (i := 24) rfl (by kernel_rfl) (by kernel_rfl) (by kernel_rfl) (fun _ _ _ h => h) (by rfl) ?hy124 (by assumption) ?rest124
            case hy124 => (intro w hSw; (try dsimp only at hSw); go_simp <;> with_reducible rfl)
            try simp only [Act.put, List.setIfInBounds_toArray, List.set_cons_zero, List.set_cons_succ]
            refine' take_y (i := 25) rfl (by kernel_rfl) (by kernel_rfl) (by kernel_rfl) (fun _ _ _ h => h) (by rfl) ?hy125 (by assumption) ?rest125
            case hy125 => (intro w hSw; (try dsimp only at hSw); go_simp <;> with_reducible rfl)
            try simp only [Act.put, List.setIfInBounds_toArray, List.set_cons_zero, List.set_cons_succ]
            refine' take_y (i := 26) rfl (by kernel_rfl) (by kernel_rfl) (by kernel_rfl) (fun _ _ _ h => h) (by rfl) ?hy126 (by assumption) ?rest126
            case hy126 => (intro w hSw; (try dsimp only at hSw); go_simp <;> with_reducible rfl)
            try simp only [Act.put, List.setIfInBounds_toArray, List.set_cons_zero, List.set_cons_succ]
            refine' take_y (i := 27) rfl (by kernel_rfl) (by kernel_rfl) (by kernel_rfl) (fun _ _ _ h => h) (by rfl) ?hy127 (by assumption) ?rest127
            case hy127 => (intro w hSw; (try dsimp only at hSw); go_simp <;> with_reducible rfl)
            try simp only [Act.put, List.setIfInBounds_toArray, List.set_cons_zero, List.set_cons_succ]
            refine' take_y (i := 28) rfl (by kernel_rfl) (by kernel_rfl) (by kernel_rfl) (fun _ _ _ h => h) (by rfl) ?hy128 (by assumption) ?rest128
            case hy128 => (intro w hSw; (try dsimp only at hSw); go_simp <;> with_reducible rfl)
            try simp only [Act.put, List.setIfInBounds_toArray, List.set_cons_zero, List.set_cons_succ]
            refine' take_y (i := 29) rfl (by kernel_rfl) (by kernel_rfl) (by kernel_rfl) (fun _ _ _ h => h) (by rfl) ?hy129 (by assumption) ?rest129
            case hy129 => (intro w hSw; (try dsimp only at hSw); go_simp <;> with_reducible rfl)
            try simp only [Act.put, List.setIfInBounds_toArray, List.set_cons_zero, List.set_cons_succ]
            refine' take_y (i := 30) rfl (by kernel_rfl) (by kernel_rfl) (by kernel_rfl) (fun _ _ _ h => h) (by rfl) ?hy130 (by assumption) ?rest130
            case hy130 => (intro w hSw; (try dsimp only at hSw); go_simp <;> with_reducible rfl)
            try simp only [Act.put, List.setIfInBounds_toArray, List.set_cons_zero, List.set_cons_succ]
            refine' take_y (i := 31) rfl (by kernel_rfl) (by kernel_rfl) (by kernel_rfl) (fun _ _ _ h => h) (by rfl) ?hy131 (by assumption) ?rest131
            case hy131 => (intro w hSw; (try dsimp only at hSw); go_simp <;> with_reducible rfl)
            try simp only [Act.put, List.setIfInBounds_toArray, List.set_cons_zero, List.set_cons_succ]
            refine' take_y (i := 32) rfl (by kernel_rfl) (by kernel_rfl) (by kernel_rfl) (fun _ _ _ h => h) (by rfl) ?hy132 (by assumption) ?rest132
            case hy132 => (intro w hSw; (try dsimp only at hSw); go_simp <;> with_reducible rfl)
            try simp only [Act.put, List.setIfInBounds_toArray, List.set_cons_zero, List.set_cons_succ]
            refine' take_y (i := 33) rfl (by kernel_rfl) (by kernel_rfl) (by kernel_rfl) (fun _ _ _ h => h) (by rfl) ?hy133 (by assumption) ?rest133
            case hy133 => (intro w hSw; (try dsimp only at hSw); go_simp <;> with_reducible rfl)
            try simp only [Act.put, List.setIfInBounds_toArray, List.set_cons_zero, List.set_cons_succ]
            refine' take_y (i := 34) rfl (by kernel_rfl) (by kernel_rfl) (by kernel_rfl) (fun _ _ _ h => h) (by rfl) ?hy134 (by assumption) ?rest134
            case hy134 => (intro w hSw; (try dsimp only at hSw); go_simp <;> with_reducible rfl)
            try simp only [Act.put, List.setIfInBounds_toArray, List.set_cons_zero, List.set_cons_succ]
            refine' take_y (i := 35) rfl (by kernel_rfl) (by kernel_rfl) (by kernel_rfl) (fun _ _ _ h => h) (by rfl) ?hy135 (by assumption) ?rest135
            case hy135 => (intro w hSw; (try dsimp only at hSw); go_simp <;> with_reducible rfl)
            try simp only [Act.put, List.setIfInBounds_toArray, List.set_cons_zero, List.set_cons_succ]
            refine' take_y (i := 36) rfl (by kernel_rfl) (by kernel_rfl) (by kernel_rfl) (fun _ _ _ h => h) (by rfl) ?hy136 (by assumption) ?rest136
            case hy136 => (intro w hSw; (try dsimp only at hSw); go_simp <;> with_reducible rfl)
            try simp only [Act.put, List.setIfInBounds_toArray, List.set_cons_zero, List.set_cons_succ]
            refine' take_n (i := 37) rfl (by kernel_rfl) (by kernel_rfl) (by kernel_rfl) (fun _ _ _ h => h) (by rfl) (by assumption) ?rest137
            try simp only [Act.put, List.setIfInBounds_toArray, List.set_cons_zero, List.set_cons_succ]
            refine' take_n (i := 38) rfl (by kernel_rfl) (by kernel_rfl) (by kernel_rfl) (fun _ _ _ h => h) (by rfl) (by assumption) ?rest138
            try simp only [Act.put, List.setIfInBounds_toArray, List.set_cons_zero, List.set_cons_succ]
            refine' take_n (i := 39) rfl (by kernel_rfl) (by kernel_rfl) (by kernel_rfl) (fun _ _ _ h => h) (by rfl) (by assumption) ?rest139
            try simp only [Act.put, List.setIfInBounds_toArray, List.set_cons_zero, List.set_cons_succ]
            refine' take_y (i := 40) rfl (by kernel_rfl) (by kernel_rfl) (by kernel_rfl) (fun _ _ _ h => h) (by rfl) ?hy140 (by assumption) ?rest140
            case hy140 => (intro w hSw; (try dsimp only at hSw); go_simp <;> with_reducible rfl)
            try simp only [Act.put, List.setIfInBounds_toArray, List.set_cons_zero, List.set_cons_succ]
            refine' take_y (i := 41) rfl (by kernel_rfl) (by kernel_rfl) (by kernel_rfl) (fun _ _ _ h => h) (by rfl) ?hy141 (by assumption) ?rest141
            case hy141 => (intro w hSw; (try dsimp only at hSw); go_simp <;> with_reducible rfl)
            try simp only [Act.put, List.setIfInBounds_toArray, List.set_cons_zero, List.set_cons_succ]
            refine wpAnyH_done (by kernel_rfl) ?_ _
            all_goals
              have HWb := Lib.hid (HW7.out.below HDb.out)
              clear hzb HS HD0 HDa HDb HW7 HOX7 HR7 HFX7
              go_wp2
              go_roundw
              case rel => exact ⟨j + 1, by omega, by go_num, by rw [HCS.out, HMM.out, HM.out]; go_num, HWb.out⟩
              case measure => simp [intOf]; omega
    · obtain rfl : j = 12 := by omega
      clear hlt
      have hCN : C = N := by rw [← HC.out, HCA.out, HN.out]
      subst hCN
      go_wp2_with fail
      refine (works_ok _ (HE.out.below HW.out.bel)).mono ?_
      rintro e w9 ⟨rfl, hb9⟩
      have HB9 := Lib.hid (bel2 HW.out.bel hb9)
      clear hb9
      go_wp2
      go_ret
      exact ⟨rfl, HB9.out⟩
end Go.Proofs.YtenggngcigkakaaGreatDoor
