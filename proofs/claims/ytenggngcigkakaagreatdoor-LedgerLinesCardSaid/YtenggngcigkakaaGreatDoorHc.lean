/- The contracts of the program's put and Add, on ledgers. -/
import Derived.Test.YtenggngcigkakaaGreatDoorHb
namespace Go.Proofs.YtenggngcigkakaaGreatDoor
open Go.RowKit Go.ChangeShapes
open Go.ChangeMaps (setBlock)

theorem Kept.of_grown {a b : World} {r : Option Nat} (h : a.grownBy b r) : Kept (fun k => some k = r) a b := ⟨h.os, h.tape, h.output, h.size, fun k hk hs => h.block k hk hs⟩
theorem setBlock_alloc {w : World} {m : Nat} (o t : Obj) (h : m < w.heap.size) : setBlock (w.alloc t) m o = (setBlock w m o).alloc t := by
  unfold setBlock World.alloc
  simp only
  congr 1
  apply Array.ext_getElem?
  intro i
  by_cases e1 : m = i
  · subst e1
    simp [Array.getElem?_setIfInBounds, Array.getElem?_push, h, Nat.ne_of_lt h]
    omega
  · by_cases e2 : i = w.heap.size
    · subst e2
      rw [Array.getElem?_setIfInBounds, if_neg e1, Array.getElem?_push, Array.getElem?_push, if_pos rfl, if_pos (by simp)]
    · simp [Array.getElem?_setIfInBounds, Array.getElem?_push, e1, e2]
theorem six_of {W : World} {g o : Nat} {a : Att} {cs : Array Value} (h : Bk W g 32 cs) (hc : ∀ j x, a.cl[j]? = some x → cs[o + j]? = some x) : Six W g o a :=
  ⟨(h.cell _).trans (hc 0 _ rfl), (h.cell _).trans (hc 1 _ rfl), (h.cell _).trans (hc 2 _ rfl), (h.cell _).trans (hc 3 _ rfl), (h.cell _).trans (hc 4 _ rfl), (h.cell _).trans (hc 5 _ rfl)⟩
theorem six_new {W : World} {g : Nat} {a : Att} (h : Bk W g 32 a.cl.toArray) : Six W g 0 a := six_of h fun j x hj => by simpa using hj
theorem cls_snoc (l : List Att) (a : Att) : cls (l ++ [a]) = cls l ++ a.cl := by rw [cls_append]; simp [cls]
theorem cl_one (a : Att) : ∀ u ∈ a.cl, u.oneCell' = true := fun u hu => cls_one [a] u (by simpa [cls] using hu)
theorem news_new (w : World) (a : Att) : ∀ j u, a.cl[j]? = some u → (w.alloc (.cells a.cl.toArray 32)).cell? ((⟨w.heap.size, 0, none⟩ : Addr).add j) = some u := by
  intro j u hj
  have e : (⟨w.heap.size, 0, none⟩ : Addr).add j = ⟨w.heap.size, j, none⟩ := by unfold Addr.add; split <;> simp_all
  rw [e, (Bk.new w 32 a.cl.toArray).cell j]
  simpa using hj
/-- What put and Add leave: one attempt more; turned are blocks of the book alone; its blocks are those it had, and new ones. -/
def Put1 (w : World) (bk m lo : Nat) (l : List Att) (w' : World) : Prop :=
  (∃ v', BookW w' bk m v' lo l) ∧ Kept (Foot w bk) w w' ∧ ∀ g, Foot w' bk g → Foot w bk g ∨ w.heap.size ≤ g

set_option maxHeartbeats 1000000 in
theorem put_ok (bk m lo : Nat) (v : Value) (l : List Att) (a : Att) (w : World) (h : BookW w bk m v lo l) (ha : a.Ok) (hl : l.length < 10000) :
    Calls Tryz.prog 51 #[.pointer (some ⟨bk, 0, none⟩), a.val] w fun e w' => e = .returned (.tuple #[]) ∧ Put1 w bk m lo (l ++ [a]) w' := by
  obtain ⟨i0, hi, hz0, hz1, hz2⟩ := info_parts info_int
  obtain ⟨j0, hj, hy0, hy1, hy2⟩ := info_parts info_att
  obtain ⟨sa, sc, rfl, h0, h1, hf0, hrd⟩ := h.cells
  obtain ⟨_, hcap, hcm, _⟩ := hrd.cap
  obtain ⟨D0, hD, hM⟩ := h.grp
  obtain ⟨kl, hkl⟩ := okey_lit ha.rg.o
  obtain ⟨v0, zs, st, o, o1, hbo, hrun, hset, hat, hoi, hzl, hfoot, hstore⟩ := groups_entry lawO Tryz.underlying77 zeroS hD (by unfold maxLen; omega) hkl
  have hzs : zs = plZ l a.k a.i a.g := dat_uniq hoi ((hM.2 _ _ _ _ ha.rg.o hkl).symm.trans hat)
  have hm : m < w.heap.size := (Array.getElem?_eq_some_iff.1 hbo).1
  -- which blocks are apart
  have hbkm : bk ≠ m := by
    rintro rfl
    obtain ⟨es, clock, hb, _⟩ := hD
    have h2 := h.hk
    unfold Bk at h2
    rw [hb] at h2
    cases h2
  have hbk0 : ∀ g, v0.ownBlock = some g → g ≠ bk := by
    rintro g hg rfl
    exact absurd (own_type hoi.1 hg h.hk) (by decide)
  have hbkv : ∀ g, (Value.slice sa l.length sc).ownBlock = some g → g ≠ bk := by
    rintro g hg rfl
    exact absurd (own_type h.row hg h.hk) (by decide)
  have hmv : ∀ g, (Value.slice sa l.length sc).ownBlock = some g → g ≠ m := by
    rintro g hg rfl
    rcases h.row.2 with ⟨e1, _⟩ | ⟨g', cap, cur, e1, _, h3, _⟩
    · rw [e1] at hg; cases hg
    · rw [e1] at hg
      obtain rfl : g' = g := by simpa [Value.ownBlock] using hg
      obtain ⟨es, clock, hb, _⟩ := hD
      rw [hb] at h3
      cases h3
  have hv0v : ∀ g, (Value.slice sa l.length sc).ownBlock = some g → v0.ownBlock ≠ some g := by
    intro g hg hg0
    rcases h.row.2 with ⟨e1, _⟩ | ⟨g', cap, cur, e1, _, h3, _⟩
    · rw [e1] at hg; cases hg
    · rw [e1] at hg
      obtain rfl : g' = g := by simpa [Value.ownBlock] using hg
      exact absurd (own_type hoi.1 hg0 (show Bk w g' 32 cur from h3)) (by decide)
  -- the worlds
  have hfl : ∀ g, Foot w bk g → g < w.heap.size := fun g hg => (h.foot_le hg).2
  have hb1 : Below w.heap.size w (w.alloc (.cells a.cl.toArray 32)).drew := bel_drew (bel_new w _)
  have hbox : Bk (w.alloc (.cells a.cl.toArray 32)).drew w.heap.size 32 a.cl.toArray := Bk.new w _ _
  obtain ⟨W1, hW1⟩ : ∃ W1, (w.alloc (.cells a.cl.toArray 32)).drew = W1 := ⟨_, rfl⟩
  have hW1s : W1.heap.size = w.heap.size + 1 := by rw [← hW1]; simp [World.drew]
  rw [hW1] at hb1 hbox
  have hbo1 : W1.heap[m]? = some o := (hb1.block m hm).trans hbo
  have hrunA := hrun W1 hbo1
  obtain ⟨hA1, hA2⟩ := hset W1 hbo1
  obtain ⟨A, hA⟩ : ∃ A, setBlock W1 m o1 = A := ⟨_, rfl⟩
  have hAs : A.heap.size = w.heap.size + 1 := by rw [← hA, ← hW1s]; simp [setBlock]
  have hrunA2 : (Instr.mapEntry 77 (.map (some m)) (okey a.k a.i a.g)).run Tryz.prog (W1.alloc (.cells #[.int .i64 (l.length : Int)] 3)) = .ok (.tuple #[v0, goInt st]) (A.alloc (.cells #[.int .i64 (l.length : Int)] 3)) := by
    rw [hrun _ ((((bel_new W1 _).block m (by omega)).trans hbo1)), setBlock_alloc _ _ (by omega), hA]
  rw [hA] at hrunA hA1 hA2
  have kA : Kept (fun k => k = m) W1 A := by
    rw [← hA]
    exact ⟨rfl, rfl, rfl, by simp [setBlock], fun k _ hk => by rw [hA]; exact hA2 k hk⟩
  have kA' : Kept (fun k => k = m) W1 (A.alloc (.cells #[.int .i64 (l.length : Int)] 3)) := kA.alloc _
  -- the append to the entry
  have hoA : (A.alloc (.cells #[.int .i64 (l.length : Int)] 3)).ownsInts (m + 1) 3 .i64 v0 zs := ⟨own_same hoi.1 fun g hg => by
    have h2 := hoi.1.lt g hg
    rw [(kA'.block g (by omega) (by omega))]
    exact hb1.block g h2.2, hoi.2⟩
  obtain ⟨v1, B, hap, hown1, hgrB, _, hloc1⟩ := run_append_own_at (P := Tryz.prog) (A.alloc (.cells #[.int .i64 (l.length : Int)] 3)) (m + 1) 118 118 3 i0 (.int .i64 0) 1 8 Tryz.underlying118 hi hz0 hz1 hz2 rfl (by decide) v0 zs.length _ hoA.1 ⟨A.heap.size, 0, none⟩ 1 1 [.int .i64 (l.length : Int)] rfl (cell_one_new _ _ _) (fun u hu => by rw [List.mem_singleton.1 hu]; rfl) (by unfold maxLen; omega) (by omega) (by simp; omega)
  have hown1' : B.ownsInts (m + 1) 3 .i64 v1 (zs ++ [(l.length : Int)]) := World.ownsInts.appended hoA hown1 (WalkArith.wf_i64 (by omega))
  have kB0 : Kept (fun k => k = m ∨ some k = v0.ownBlock) W1 (A.alloc (.cells #[.int .i64 (l.length : Int)] 3)) := kA'.mono fun k _ e => .inl e
  have kB : Kept (fun k => k = m ∨ some k = v0.ownBlock) W1 B := kB0.trans ((Kept.of_grown hgrB).mono fun k _ e => .inr e)
  have hmB : B.heap[m]? = some o1 := by
    rw [hgrB.block m (by simp; omega) (fun e => by have := (hoi.1.lt m e.symm).1; omega), (bel_new A _).block m (by omega)]
    exact hA1
  have hBs := hgrB.size
  rw [size_up, hAs] at hBs
  -- the store into the entry
  obtain ⟨C, hes, hgC, hgrC, hfC⟩ := hstore B v1 (zs ++ [(l.length : Int)]) hmB (by omega) (fun k hk h2 h3 => (kB.block k (by omega) (by rintro (e | e); exact h2 e; exact h3 e)).trans (hb1.block k hk)) hown1' (by simp; omega) (by
    rcases hloc1 with e | e
    · exact .inl e
    · exact .inr ⟨_, e, by simp; omega⟩)
  have kC : Kept (fun k => k = m ∨ some k = v0.ownBlock) W1 C := kB.trans ((Kept.of_grown hgrC).mono fun k _ e => .inl (Option.some.inj e))
  -- the append to the list
  have hrowC : ((C.alloc (.cells a.cl.toArray 32)).drew).ownsRow lo 32 6 (.slice sa l.length sc) l.length (cls l) := own_same h.row fun g hg => by
    have h2 := (h.row.lt g hg).2
    have h3 : (C.alloc (.cells a.cl.toArray 32)).drew.heap[g]? = C.heap[g]? := (bel_new C _).block g (by have := kC.size; omega)
    rw [h3, kC.block g (by omega) (by rintro (e | e); exact hmv g hg e; exact hv0v g hg e.symm)]
    exact hb1.block g h2
  have hlo : lo ≤ w.heap.size := by have := h.lb; have := h.hk.lt; omega
  have hCs := kC.size
  obtain ⟨v2, D, hap2, hown2, hgrD, hnil2, hloc2⟩ := run_append_own_at (P := Tryz.prog) (C.alloc (.cells a.cl.toArray 32)).drew lo 22 22 32 j0 _ 6 48 Tryz.underlying22 hj hy0 hy1 hy2 rfl (by decide) (.slice sa l.length sc) l.length _ hrowC ⟨C.heap.size, 0, none⟩ 1 1 a.cl rfl (news_new C a) (cl_one a) (by unfold maxLen; omega) (by omega) (by simp [World.drew]; omega)
  obtain ⟨g2, sc2, rfl, hg2lo, hg2lt⟩ := World.ownsRow.form hown2 (by omega)
  have kD : Kept (fun k => k = m ∨ some k = v0.ownBlock ∨ some k = (Value.slice sa l.length sc).ownBlock) W1 D :=
    (((kC.alloc (.cells a.cl.toArray 32)).drew).mono fun k _ e => by rcases e with e | e; exact .inl e; exact .inr (.inl e)).trans ((Kept.of_grown hgrD).mono fun k _ e => .inr (.inr e))
  -- all in terms of w
  have hnb : ¬ (bk = m ∨ some bk = v0.ownBlock ∨ some bk = (Value.slice sa l.length sc).ownBlock) := by
    rintro (e | e | e)
    · exact hbkm e
    · exact hbk0 bk e.symm rfl
    · exact hbkv bk e.symm rfl
  have hnx : ¬ (w.heap.size = m ∨ some w.heap.size = v0.ownBlock ∨ some w.heap.size = (Value.slice sa l.length sc).ownBlock) := by
    rintro (e | e | e)
    · omega
    · have := (hoi.1.lt _ e.symm).2; omega
    · have := (h.row.lt _ e.symm).2; omega
  have hbk1 : Bk W1 bk 79 #[.slice sa l.length sc, .map (some m)] := h.hk.below hb1
  have puts : ∀ W, Kept (fun k => k = m ∨ some k = v0.ownBlock ∨ some k = (Value.slice sa l.length sc).ownBlock) W1 W → PutS W bk m l.length sa sc w.heap.size a := fun W kW => by
    have e1 := hbk1.kept kW hnb
    exact ⟨e1.cell 0, e1.cell 1, six_new (hbox.kept kW hnx)⟩
  have kAx : Kept (fun k => k = m ∨ some k = v0.ownBlock ∨ some k = (Value.slice sa l.length sc).ownBlock) W1 A := kA.mono fun k _ e => .inl e
  have kBx : Kept (fun k => k = m ∨ some k = v0.ownBlock ∨ some k = (Value.slice sa l.length sc).ownBlock) W1 B := kB.mono fun k _ e => by rcases e with e | e; exact .inl e; exact .inr (.inl e)
  have kCx : Kept (fun k => k = m ∨ some k = v0.ownBlock ∨ some k = (Value.slice sa l.length sc).ownBlock) W1 C := kC.mono fun k _ e => by rcases e with e | e; exact .inl e; exact .inr (.inl e)
  have hbkD : Bk D bk 79 #[.slice sa l.length sc, .map (some m)] := hbk1.kept kD hnb
  rw [hAs] at hap
  refine (put_walk bk m l.length sa sc a st v0 v1 (some ⟨g2, 0, none⟩) (l.length + 1) sc2 w A B C D (by omega) hcm hcap h0 h1 h.hk.lt (by rw [← hW1] at hrunA; exact hrunA) (by rw [← hW1] at hrunA2; exact hrunA2) (puts A kAx) hAs hap (puts B kBx) hes (puts C kCx) (by have := h.hk.lt; omega) hap2 (puts D kD) (hbkD.frozen 0)).mono ?_
  rintro e w' ⟨rfl, rfl⟩
  refine ⟨rfl, ?_⟩
  -- the book behind it
  have hfin : Bk (D.setCell ⟨bk, 0, none⟩ (.slice (some ⟨g2, 0, none⟩) (l.length + 1) sc2)) bk 79 #[.slice (some ⟨g2, 0, none⟩) (l.length + 1) sc2, .map (some m)] := by
    have := hbkD.put 0 (.slice (some ⟨g2, 0, none⟩) (l.length + 1) sc2)
    simpa using this
  have hoth : ∀ k, k ≠ bk → (D.setCell ⟨bk, 0, none⟩ (.slice (some ⟨g2, 0, none⟩) (l.length + 1) sc2)).heap[k]? = D.heap[k]? := fun k hk => Below.heap_setCell _ _ _ _ hk
  have hg2bk : g2 ≠ bk := by
    rintro rfl
    exact absurd (own_type hown2 rfl hbkD) (by decide)
  have hCD : ∀ k, k < C.heap.size → some k ≠ (Value.slice sa l.length sc).ownBlock → D.heap[k]? = C.heap[k]? := fun k hk hne => by
    rw [hgrD.block k (by simp [World.drew]; omega) hne]
    exact (bel_new C _).block k hk
  have hmC : m < C.heap.size := by omega
  have hgl : ∀ g, gfoot C m g → g < C.heap.size ∧ g ≠ bk ∧ some g ≠ (Value.slice sa l.length sc).ownBlock := fun g hg => by
    obtain ⟨cs, hcs⟩ := gfoot_type hgC hg
    have hb2 : Bk C g 3 cs := hcs
    refine ⟨hb2.lt, ?_, ?_⟩
    · rintro rfl
      exact absurd (hb2.uniq (hbk1.kept kCx hnb)).1 (by decide)
    · intro e
      rcases h.row.2 with ⟨e1, _⟩ | ⟨g', cap, cur, e1, _, h3, _⟩
      · rw [e1] at e; cases e
      · rw [e1] at e
        obtain rfl : g = g' := by simpa [Value.ownBlock] using e
        have h4 : Bk C g 32 cur := by
          have h5 : Bk W1 g 32 cur := (show Bk w g 32 cur from h3).below hb1
          refine h5.kept kC ?_
          rintro (e2 | e2)
          · exact hmv g (by rw [e1]; rfl) e2
          · exact hv0v g (by rw [e1]; rfl) e2.symm
        exact absurd (hb2.uniq h4).1 (by decide)
  obtain ⟨hgE, hgf⟩ := groups_same hgC (w' := D.setCell ⟨bk, 0, none⟩ (.slice (some ⟨g2, 0, none⟩) (l.length + 1) sc2)) ((hoth m hbkm.symm).trans (hCD m hmC (fun e => hmv m e.symm rfl))) (fun g hg => by
    obtain ⟨q1, q2, q3⟩ := hgl g hg
    exact (hoth g q2).trans (hCD g q1 q3))
  have hbook : BookW (D.setCell ⟨bk, 0, none⟩ (.slice (some ⟨g2, 0, none⟩) (l.length + 1) sc2)) bk m (.slice (some ⟨g2, 0, none⟩) (l.length + 1) sc2) lo (l ++ [a]) := by
    refine ⟨allOk_append.2 ⟨h.ok, allOk_one.2 ha⟩, by simp; omega, hfin, ?_, ⟨_, by rw [List.length_append]; exact hgE, ?_⟩, h.lb, h.lm⟩
    · rw [List.length_append, cls_snoc]
      exact own_same hown2 fun g hg => hoth g (by
        obtain rfl : g2 = g := by simpa [Value.ownBlock] using hg
        exact hg2bk)
    · rw [hzs] at hown1'
      rw [hzs]
      exact mapOf_put hM ha.rg.o hkl hown1'
  have hkept : Kept (Foot w bk) w D := by
    have h2 : Kept (Foot w bk) w W1 := Kept.mono (Kept.of_below (S := fun _ => False) hb1) fun k _ e => e.elim
    refine h2.trans (kD.mono fun k _ e => h.foot.2 ?_)
    rcases e with e | e | e
    · exact .inr (.inl e)
    · exact .inr (.inr (.inr (hfoot k e.symm)))
    · exact .inr (.inr (.inl e.symm))
  refine ⟨⟨_, hbook⟩, hkept.put (p := ⟨bk, 0, none⟩) (.inr (.inl rfl)) _, fun g hg => ?_⟩
  rcases hbook.foot.1 hg with e | e | e | e
  · exact .inl (.inl e)
  · exact .inl (h.foot.2 (.inr (.inl e)))
  · obtain rfl : g2 = g := by simpa [Value.ownBlock] using e
    rcases hloc2 with e2 | e2
    · exact .inl (h.foot.2 (.inr (.inr (.inl (e2.symm.trans rfl)))))
    · have e3 : g2 = (C.alloc (.cells a.cl.toArray 32)).drew.heap.size := Option.some.inj e2
      refine .inr ?_
      rw [e3]
      simp [World.drew]
      omega
  · rcases hfC g ((hgf g).1 e) with e2 | e2
    · exact .inl (h.foot.2 (.inr (.inr (.inr e2))))
    · rcases hloc1 with e3 | e3
      · exact .inl (h.foot.2 (.inr (.inr (.inr (hfoot g (e3.symm.trans e2))))))
      · rw [e3] at e2
        have e4 := Option.some.inj e2
        refine .inr ?_
        rw [← e4]
        simp
        omega
end Go.Proofs.YtenggngcigkakaaGreatDoor
