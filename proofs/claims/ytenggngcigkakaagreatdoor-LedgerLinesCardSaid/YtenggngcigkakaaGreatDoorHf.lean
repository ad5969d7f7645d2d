/- The range-function (*Ledger).of: it yields the attempts for a resource, in order. -/
import Derived.Test.YtenggngcigkakaaGreatDoorHe
import Derived.RangeFuncNested
import Derived.RangeFuncBound
import Derived.RangeFuncBox
import Derived.RangeFuncCalls
import Derived.RangeFuncLeaves
import Derived.Shelf.Abstract
import Derived.Shelf.RegionOpen
import Derived.BigFrameIn
import Derived.OwnWalkIn
import Derived.TacticsInMore
import Derived.LoopNIn
import Derived.LoopIn
namespace Go.Proofs.YtenggngcigkakaaGreatDoor
open Go.RowKit Go.Shelf Go.ChangeShapes
open Go.ChangeMaps Go.MapKept
open Go.WideElems (Fit rd rg rd_val)
attribute [local go_sem] Oper.semAt_some

section
variable {H : Type} {P : Program} {w : World} {k e : TypeId} {q : IntKind} {base b n : Nat} {D : DataW H}
/-- A look-up in such a map, in whatever world that holds the map's block. -/
theorem groups_look (KL : WideMaps.KeyLaw P k) {t E : TypeId} (ht : P.underlying t = some (.map k E)) (hz : ∀ u : World, (zeroValue E).run P u = .ok (.slice none 0 0) u) (h : w.ownsGroups (H := H) P k base e q b n D) {key : Value} {kl : Lit} (hkey : keyOf P k key = some kl) :
    ∃ (v : Value) (zs : List Int) (o : Obj), w.heap[b]? = some o ∧ (∀ W : World, W.heap[b]? = some o → (Instr.lookup t (.map (some b)) key false).run P W = .ok v W) ∧ D.atKey kl .nil = rowDatum q v zs ∧ w.ownsInts base e q v zs ∧ (∀ g, v.ownBlock = some g → gfoot w b g) := by
  obtain ⟨es, clock, hb, F, hs, rfl, hbb, hlen, hap⟩ := h
  have K := Maps.Keyed.of_law KL
  rcases Maps.fit_look false K ht (hz w) hb F hkey with ⟨hrun, hno, hat⟩ | ⟨e0, y, hm0, h3, hrun, hR, hat, _⟩
  · refine ⟨.slice none 0 0, [], _, hb, fun W hW => ?_, hat _, World.ownsInts_nil _ _ _ _, fun g hg => by cases hg⟩
    rcases Maps.fit_look false K ht (hz W) hW F hkey with ⟨hrun, _, _⟩ | ⟨e0, y, hm0, h3, _⟩
    · exact hrun
    · exact absurd h3 (hno e0 hm0)
  · obtain ⟨zs, ho, rfl⟩ := rowElem_inv hR
    refine ⟨e0.val, zs, _, hb, fun W hW => ?_, hat _, ho, fun g hg => ⟨es, clock, hb, e0, hm0, hg⟩⟩
    rcases Maps.fit_look false K ht (hz W) hW F hkey with ⟨_, hno, _⟩ | ⟨e1, y, hm1, h4, hrun1, _⟩
    · exact absurd h3 (hno e0 hm0)
    · have : e0 = e1 := by
        obtain ⟨_, _, s3⟩ := F.stamped
        obtain ⟨i, hi, hi2⟩ := List.getElem_of_mem hm0
        obtain ⟨j, hj, hj2⟩ := List.getElem_of_mem hm1
        have e1' : i = j := (List.getElem?_inj (by rw [List.length_map]; exact hi) s3).1 (by rw [List.getElem?_map, List.getElem?_map, List.getElem?_eq_getElem hi, List.getElem?_eq_getElem hj]; simp [hi2, hj2, h3, h4])
        subst e1'
        exact hi2.symm.trans hj2
      subst this
      exact hrun1
end

theorem BookW.same {w w' : World} {bk m lo : Nat} {v : Value} {l : List Att} (h : BookW w bk m v lo l) (st : ∀ g, Foot w bk g → w'.heap[g]? = w.heap[g]?) : BookW w' bk m v lo l ∧ ∀ g, Foot w' bk g ↔ Foot w bk g := by
  obtain ⟨D, hD, hM⟩ := h.grp
  obtain ⟨hD', hf⟩ := groups_same hD (st m (h.foot.2 (.inr (.inl rfl)))) (fun g hg => st g (h.foot.2 (.inr (.inr (.inr hg)))))
  have h' : BookW w' bk m v lo l := ⟨h.ok, h.len, h.hk.same (st bk (.inl rfl)), own_same h.row fun g hg => st g (h.foot.2 (.inr (.inr (.inl hg)))), ⟨D, hD', hM⟩, h.lb, h.lm⟩
  exact ⟨h', fun g => by rw [h'.foot, h.foot, hf]⟩
theorem LedW.same {w w' : World} {b bk lo : Nat} {l : List Att} (h : LedW w b bk lo l) (hb : w'.heap[b]? = w.heap[b]?) (st : ∀ g, Foot w bk g → w'.heap[g]? = w.heap[g]?) : LedW w' b bk lo l ∧ ∀ g, Foot w' bk g ↔ Foot w bk g := by
  obtain ⟨m, v, hB⟩ := h.book
  obtain ⟨h1, h2⟩ := hB.same st
  exact ⟨⟨h.hb.same hb, m, v, h1⟩, h2⟩

theorem of_ok (p : Option Addr) (k i g : Int) (w : World) : Calls Tryz.prog 59 #[.pointer p, okey k i g] w fun e w' => e = .returned (.func (.func 81) #[] #[.pointer (some ⟨w.heap.size, 0, none⟩), .pointer (some ⟨w.heap.size + 1, 0, none⟩)]) ∧ (w.alloc (.cells #[.pointer p] 27)).alloc (.cells #[.int .i64 k, .int .i64 i, .int .u32 g] 25) = w' := by
  unfold okey
  go_enter Tryz.func59, Tryz.ntmps59
  go_wp2
  go_ret
  exact ⟨rfl, rfl⟩

/-- What a round that goes on keeps: the blocks below n₀ that X does not name. -/
def KpS (X : Nat → Prop) (n₀ : Nat) (A B : World) : Prop := ∀ k, k < n₀ → ¬ X k → B.heap[k]? = A.heap[k]?
theorem KpS.refl (X : Nat → Prop) (n₀ : Nat) (A : World) : KpS X n₀ A A := fun _ _ _ => rfl
theorem KpS.trans {X : Nat → Prop} {n₀ : Nat} {A B C : World} (h : KpS X n₀ A B) (k : KpS X n₀ B C) : KpS X n₀ A C := fun i hi hx => (k i hi hx).trans (h i hi hx)
theorem kpS_b {X : Nat → Prop} {n₀ : Nat} {w : World} (hn : n₀ ≤ w.heap.size) (W : World) (l : Nat) (o o' : Obj) (hl : w.heap.size ≤ l) (h : W.heap[l]? = some o) (h1 : o.isCells = false) (h2 : o.isWalk = false) : KpS X n₀ W (W.putObj l o') := fun k hk _ =>
  (belowK_b hn W l o o' hl h h1 h2).block k hk
theorem KpS.of_below {X : Nat → Prop} {n₀ : Nat} {A B : World} (h : Below A.heap.size A B) (hn : n₀ ≤ A.heap.size) : KpS X n₀ A B := fun k hk _ => h.block k (by omega)

structure OfAt (W : World) (X : Nat → Prop) (n₀ Bl Bo b bk lo : Nat) (l : List Att) (k i g : Int) : Prop where
  bl : Bk W Bl 27 #[.pointer (some ⟨b, 0, none⟩)]
  bo : Bk W Bo 25 #[.int .i64 k, .int .i64 i, .int .u32 g]
  led : LedW W b bk lo l
  lb : Bl < n₀
  lo_ : Bo < n₀
  bb : b < n₀
  ft : ∀ g, Foot W bk g → g < n₀ ∧ ¬ X g
  xb : ¬ X Bl
  xo : ¬ X Bo
  xx : ¬ X b
theorem OfAt.kp {W W' : World} {X : Nat → Prop} {n₀ Bl Bo b bk lo : Nat} {l : List Att} {k i g : Int} (h : OfAt W X n₀ Bl Bo b bk lo l k i g) (q : KpS X n₀ W W') : OfAt W' X n₀ Bl Bo b bk lo l k i g := by
  obtain ⟨h1, h2⟩ := h.led.same (q b h.bb h.xx) (fun g hg => q g (h.ft g hg).1 (h.ft g hg).2)
  exact ⟨h.bl.same (q _ h.lb h.xb), h.bo.same (q _ h.lo_ h.xo), h1, h.lb, h.lo_, h.bb, fun g hg => h.ft g ((h2 g).1 hg), h.xb, h.xo, h.xx⟩

set_option maxRecDepth 100000 in
set_option maxHeartbeats 4000000 in
theorem of1_in (n : Nat) (hn : 1 ≤ n) (l Bl Bo n₀ b bk lo : Nat) (L : List Att) (k i g : Int) (hr : RgO k i g) (X : Nat → Prop) (J Jx : List Att → World → Prop)
    (hY : ∀ pre x W, J pre W → pre.length < (ofL L k i g).length → YieldAt Fence.wide (n - 1) Tryz.prog l #[Att.val x] W fun e W' =>
      (e = .returned (.bool true) ∧ J (pre ++ [x]) W' ∧ KpS X n₀ W W') ∨ (e = .returned (.bool false) ∧ Jx (pre ++ [x]) W'))
    (W : World) (hab : AbidesFrom W.heap.size J) (hA : OfAt W X n₀ Bl Bo b bk lo L k i g) (h0 : J [] W) :
    CallsIn Fence.wide n Tryz.prog 81 #[.func (.yield l) #[] #[], .pointer (some ⟨Bl, 0, none⟩), .pointer (some ⟨Bo, 0, none⟩)] W fun e W' => (∃ v, e = .returned v) ∧
      ((∃ ys, ys = ofL L k i g ∧ J ys W') ∨ (∃ pre, pre <+: ofL L k i g ∧ Jx pre W')) := by
  have HA := Lib.hid hA
  have HAB : Hid (∀ pre A q, J pre A → J pre (A.drewN q)) := fun pre A q h => hab pre A _ none h ⟨rfl, rfl, rfl, Nat.le_refl _, fun _ _ _ => rfl⟩ (fun _ h => by cases h)
  have HY := Lib.hid hY
  have H0 := Lib.hid h0
  have hbl := hA.bl.cell 0
  have ho0 := hA.bo.cell 0
  have ho1 := hA.bo.cell 1
  have ho2 := hA.bo.cell 2
  simp only [List.getElem?_toArray, List.getElem?_cons_zero, List.getElem?_cons_succ] at hbl ho0 ho1 ho2
  have hc := hA.led.cell
  have HC := Lib.hid hc
  have hlen := hA.led.len
  obtain ⟨m, v, hB⟩ := hA.led.book
  obtain ⟨D, hD, hM⟩ := hB.grp
  obtain ⟨kl, hkl⟩ := okey_lit hr
  obtain ⟨u, zs, o, hbo, hlk, hat, hoi, hfo⟩ := groups_look lawO Tryz.underlying77 zeroS hD hkl
  have hzs : zs = plZ L k i g := dat_uniq hoi ((hM.2 _ _ _ _ hr hkl).symm.trans hat)
  subst hzs
  have hlook : ∀ q, (Instr.lookup 77 (.map (some m)) (.agg #[.int .i64 k, .int .i64 i, .int .u32 g]) false).run Tryz.prog (W.drewN q) = .ok u (W.drewN q) := fun q => hlk (W.drewN q) hbo
  have hpl : (plZ L k i g).length = (ofL L k i g).length := by unfold plZ; rw [List.length_map, pl_len]
  have hole := ofL_le L k i g
  -- the slice of places
  obtain ⟨ua, uc, hu, hul, hum, hua⟩ : ∃ (ua : Option Addr) (uc : Nat), u = .slice ua (ofL L k i g).length uc ∧ (ofL L k i g).length ≤ uc ∧ uc ≤ 9223372036854775807 ∧ ∀ j, j < (ofL L k i g).length → ∃ gu, ua = some ⟨gu, 0, none⟩ ∧ Foot W bk gu ∧ W.cell? ⟨gu, j, none⟩ = some (.int .i64 (((pl L k i g).getD j 0 : Nat) : Int)) := by
    rw [← hpl]
    rcases hoi.1.2 with ⟨e1, e2⟩ | ⟨gu, cap, cur, e1, h1, h2, h3, h4, h5, h6⟩
    · exact ⟨none, 0, by rw [e1, e2], by omega, by omega, fun j hj => by omega⟩
    · refine ⟨some ⟨gu, 0, none⟩, cap, e1, h3, by unfold maxLen at h4; omega, fun j hj => ⟨gu, rfl, hB.foot.2 (.inr (.inr (.inr (hfo gu (by rw [e1]; rfl))))), ?_⟩⟩
      rw [(show Bk W gu 3 cur from h2).cell j]
      have hx : ((plZ L k i g).map (Value.int .i64))[j]? = some (.int .i64 (((pl L k i g).getD j 0 : Nat) : Int)) := by
        have hj2 : j < (pl L k i g).length := by unfold plZ at hj; rw [List.length_map] at hj; exact hj
        unfold plZ
        simp [List.getElem?_eq_getElem hj2, List.getD]
      rw [← h6, List.getElem?_take_of_lt (by omega), Array.getElem?_toList] at hx
      exact hx
  subst hu
  obtain ⟨sa, sc, rfl, k0, k1, _, hrd⟩ := hB.cells
  have HUA := Lib.hid hua
  have hpl2 : Hid (∀ j, j < (ofL L k i g).length → ∃ hp : (pl L k i g).getD j 0 < L.length, ∃ hj : j < (ofL L k i g).length, L[(pl L k i g).getD j 0] = (ofL L k i g)[j]) := fun j hj => by
    have hj2 : j < (pl L k i g).length := by rw [pl_len]; exact hj
    obtain ⟨h1, h2, h3⟩ := pl_at L k i g j hj2
    have e : (pl L k i g).getD j 0 = (pl L k i g)[j] := by simp [List.getD, List.getElem?_eq_getElem hj2]
    rw [e]
    exact ⟨h1, h2, h3⟩
  clear hA hY h0 hab hB hD hM hat hoi hfo hlk hbo hpl hua hrd hkl
  generalize hN : ofL L k i g = N at *
  generalize hPL : pl L k i g = PL at *
  clear hN hPL
  refine callsIn_of_wp Tryz.func81 rfl trivial ?_ rfl
  simp only [Tryz.ntmps81, List.size_toArray, List.length_cons, List.length_nil, Nat.reduceAdd, Nat.reduceSub, Array.replicate_succ, Array.replicate_zero, List.push_toArray, List.append_toArray, List.nil_append, List.cons_append]
  gi_wp2_with (refine ⟨trivial, ?_⟩; gi_at_call 50; refine (callsIn_wide.2 (valid_yes _ _ _ HC.out)).mono ?_; rintro e w' ⟨rfl, rfl⟩)
  refine wpIn_wide.2 ?_
  go_quiet (fail)
  have HJ0 : Hid (J [] (W.drewN nq)) := HAB.out _ _ _ H0.out
  have HK0 : Hid (KpS X n₀ W (W.drewN nq)) := KpS.refl _ _ _
  clear hlook hbl ho0 ho1 ho2 hc k0 k1
  gi_wp2
  gi_loopw [19] (fun q wr => ∃ (j : Nat), q = .int .i64 j ∧ j ≤ N.length ∧ Hid (J (N.take j) wr) ∧ Hid (KpS X n₀ W wr)) (fun q _ => N.length - (intOf q).toNat)
  case atStart => exact ⟨0, rfl, Nat.zero_le _, HJ0, HK0⟩
  case round =>
    obtain ⟨j, rfl, hj, HJ, HK⟩ := hrel
    by_cases hlt : j < N.length
    · have HA2 := Lib.hid (HA.out.kp HK.out)
      have hbl := HA2.out.bl.cell 0
      simp only [List.getElem?_toArray, List.getElem?_cons_zero] at hbl
      have hc := HA2.out.led.cell
      obtain ⟨m2, v2, hB⟩ := HA2.out.led.book
      obtain ⟨sb, sd, rfl, k0, k1, _, hrd⟩ := hB.cells
      obtain ⟨gu, rfl, hfu, hcu⟩ := HUA.out j hlt
      have hcu2 : wr.cell? ⟨gu, j, none⟩ = some (.int .i64 ((PL.getD j 0 : Nat) : Int)) :=
        (World.cell?_of_block (a := ⟨gu, j, none⟩) (HK.out gu (HA.out.ft gu hfu).1 (HA.out.ft gu hfu).2)).trans hcu
      obtain ⟨hp, hj3, hpe⟩ := hpl2.out j hlt
      generalize PL.getD j 0 = p at *
      obtain ⟨gl, off, rfl, hgl, hsix⟩ := hrd.cell hp
      rw [hpe] at hsix
      have hsn : N.take (j + 1) = N.take j ++ [N[j]] := List.take_succ_eq_append_getElem hlt
      have hYx := HY.out (N.take j) N[j] _ HJ.out (by rw [List.length_take]; omega)
      rw [← hsn] at hYx
      have hpre : N.take (j + 1) <+: N := List.take_prefix _ _
      have HPRE := Lib.hid hpre
      obtain ⟨_, hcap, hcm, _⟩ := hrd.cap
      generalize N[j] = x at *
      obtain ⟨c0, c1, c2, c3, c4, c5⟩ := hsix
      unfold Att.val at hYx
      obtain ⟨fn, tmps, assign, body, hy, hR⟩ := hYx
      clear hB hrd hcu hpe hsn hpre hj3
      gi_wp2
      refine hR.mono ?_
      rintro e W3 (⟨rfl, hJ3, hk3⟩ | ⟨rfl, hJx3⟩)
      · have HJ4 := Lib.hid hJ3
        have HK4 := Lib.hid (HK.out.trans hk3)
        clear hJ3 hk3 hy
        gi_wp2
        exact ⟨⟨j + 1, by go_num, by omega, HJ4.out, HK4.out⟩, by simp [intOf]; omega⟩
      · have HJ4 := Lib.hid hJx3
        clear hJx3 hy
        gi_wp2
        refine bodyPost_ret (results_none rfl _ _ _) rfl ?_
        exact ⟨⟨_, rfl⟩, .inr ⟨_, HPRE.out, HJ4.out⟩⟩
    · obtain rfl : j = N.length := by omega
      clear hlt
      gi_wp2
      go_end0
      have hj := HJ.out
      rw [List.take_length] at hj
      exact ⟨⟨_, rfl⟩, .inl ⟨_, rfl, hj⟩⟩
theorem of_stops (n : Nat) (hn : 1 ≤ n) (Bl Bo n₀ b bk lo : Nat) (L : List Att) (k i g : Int) (hr : RgO k i g) (X : Nat → Prop) (w : World) (hA : OfAt w X n₀ Bl Bo b bk lo L k i g) (hn₀ : n₀ ≤ w.heap.size) :
    SeqStopsK Fence.wide n Tryz.prog 81 #[.pointer (some ⟨Bl, 0, none⟩), .pointer (some ⟨Bo, 0, none⟩)] (fun x : Att => #[x.val]) (KpS X n₀) (fun ys => ys = ofL L k i g) (fun pre => pre <+: ofL L k i g) (ofL L k i g).length w := fun l J Jx W hW hab _ hY h0 =>
  of1_in n hn l Bl Bo n₀ b bk lo L k i g hr X J Jx hY W hab (hA.kp (KpS.of_below hW hn₀)) h0
theorem stops_inv (n : Nat) (hn : 1 ≤ n) (Bl Bo : Nat) (v : Option Addr) (Kp : World → World → Prop) (w : World) (hv : Inv w v) (hbs : w.cell? ⟨Bl, 0, none⟩ = some (.pointer v)) :
    SeqStopsK Fence.wide n Tryz.prog 81 #[.pointer (some ⟨Bl, 0, none⟩), .pointer (some ⟨Bo, 0, none⟩)] (fun x : Att => #[x.val]) Kp (fun ys => ys = []) (fun pre => pre <+: []) 0 w := fun l J Jx W hW _ _ hY h0 => by
  have hbs2 := (hW.cell (p := ⟨Bl, 0, none⟩) (World.block_lt_of_cell? _ _ hbs)).trans hbs
  have HV := Lib.hid (hv.below hW)
  have H0 := Lib.hid h0
  clear hv hbs h0 hY hW
  refine callsIn_of_wp Tryz.func81 rfl trivial ?_ rfl
  simp only [Tryz.ntmps81, List.size_toArray, List.length_cons, List.length_nil, Nat.reduceAdd, Nat.reduceSub, Array.replicate_succ, Array.replicate_zero, List.push_toArray, List.append_toArray, List.nil_append, List.cons_append]
  gi_wp2_with (refine ⟨trivial, ?_⟩; gi_at_call 50; refine (callsIn_wide.2 (valid_no _ _ HV.out)).mono ?_; rintro e w' ⟨rfl, rfl⟩)
  refine bodyPost_ret (results_none rfl _ _ _) rfl ?_
  exact ⟨⟨_, rfl⟩, .inl ⟨_, rfl, H0.out⟩⟩
end Go.Proofs.YtenggngcigkakaaGreatDoor
