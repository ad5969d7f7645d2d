/- A region of eight operations by an invariant; the contract of the program's Order. -/
import Derived.Test.YtnjmlecbljeofaaDoorDo
import Derived.Test.YtnjmlecbljeofaaDoorDu
import Derived.Orders
import Derived.Deep.RegionWith
namespace Go.Proofs.YtnjmlecbljeofaaDoor
open Go.RowKit

/-- A region of eight operations whose order is drawn: an invariant over which of them have come up. -/
theorem region_inv {P : Program} {ops : Array Oper} {Q : Exit → Act → World → Prop} {id : Nat} {a : Act} {w : World}
    (J : Bool → Bool → Bool → Bool → Bool → Bool → Bool → Bool → Act → World → Prop) (hm : P.follows .mixedOrders = true) (hsz : ops.size = 8)
    (h0 : J false false false false false false false false a w.drew)
    (hs : ∀ (b0 b1 b2 b3 b4 b5 b6 b7 : Bool) (a : Act) (w : World), J b0 b1 b2 b3 b4 b5 b6 b7 a w → ∀ i ∈ Region.ready .any ops #[b0, b1, b2, b3, b4, b5, b6, b7],
      wpOp P ops Q i (J (b0 || i == 0) (b1 || i == 1) (b2 || i == 2) (b3 || i == 3) (b4 || i == 4) (b5 || i == 5) (b6 || i == 6) (b7 || i == 7)) a w)
    (he : ∀ (b0 b1 b2 b3 b4 b5 b6 b7 : Bool) (a : Act) (w : World), J b0 b1 b2 b3 b4 b5 b6 b7 a w → Region.ready .any ops #[b0, b1, b2, b3, b4, b5, b6, b7] = [] → Q .normal a w) :
    (Code.region id ops true).wp P Q a w := by
  have key : ∀ (fuel : Nat) (b0 b1 b2 b3 b4 b5 b6 b7 : Bool) (a : Act) (w : World), (!b0).toNat + (!b1).toNat + (!b2).toNat + (!b3).toNat + (!b4).toNat + (!b5).toNat + (!b6).toNat + (!b7).toNat ≤ fuel →
      J b0 b1 b2 b3 b4 b5 b6 b7 a w → wpAny P .any ops Q fuel #[b0, b1, b2, b3, b4, b5, b6, b7] a w := by
    intro fuel
    induction fuel with
    | zero =>
      intro b0 b1 b2 b3 b4 b5 b6 b7 a w hc hJ
      have hr : Region.ready .any ops #[b0, b1, b2, b3, b4, b5, b6, b7] = [] := by
        apply List.eq_nil_iff_forall_not_mem.2
        intro j hj
        obtain ⟨h1, _⟩ := mem_ready.1 hj
        rcases j with _ | _ | _ | _ | _ | _ | _ | _ | j
        all_goals
          simp only [Array.getD_eq_getD_getElem?] at h1
          simp at h1
        all_goals
          subst h1
          simp at hc
      exact ⟨hr, he _ _ _ _ _ _ _ _ a w hJ hr⟩
    | succ fuel ih =>
      intro b0 b1 b2 b3 b4 b5 b6 b7 a w hc hJ
      refine ⟨fun hr => he _ _ _ _ _ _ _ _ a w hJ hr, fun i hi => ?_⟩
      have hst := hs _ _ _ _ _ _ _ _ a w hJ i hi
      obtain ⟨h1, _⟩ := mem_ready.1 hi
      rcases i with _ | _ | _ | _ | _ | _ | _ | _ | i
      all_goals
        simp only [Array.getD_eq_getD_getElem?] at h1
        simp at h1
      all_goals
        subst h1
        refine wpOp_mono (fun a' w' h => ?_) hst
        simp at h
        refine ih _ _ _ _ _ _ _ _ a' w' ?_ h
        simp at hc ⊢
        omega
  refine wp_region_any hm ?_
  rw [hsz]
  exact key 8 false false false false false false false false a w.drew (by decide) h0

theorem wpOp_of {P : Program} {ops : Array Oper} {Q : Exit → Act → World → Prop} {i : Nat} {o : Oper} {K : Act → World → Prop} {a : Act} {w : World} (ho : ops[i]? = some o) (hg : o.guard = none) (h : o.wp P a w K Q) : wpOp P ops Q i K a w := by
  unfold wpOp
  rw [ho]
  simp only [Region.wanted, hg]
  exact .inl h

/-- The cells of both descriptors. -/
def Two (W : World) (a b : Nat) (k p g k' p' g' : Int) : Prop := W.cell? ⟨a, 0, none⟩ = some (.int .i64 k) ∧ W.cell? ⟨a, 1, none⟩ = some (.int .i64 p) ∧ W.cell? ⟨a, 2, none⟩ = some (.int .u32 g) ∧ W.cell? ⟨b, 0, none⟩ = some (.int .i64 k') ∧ W.cell? ⟨b, 1, none⟩ = some (.int .i64 p') ∧ W.cell? ⟨b, 2, none⟩ = some (.int .u32 g')
theorem cell_keeps {w w' : World} (hb : Below w.heap.size w w') {b o : Nat} {v : Value} (h : w.cell? ⟨b, o, none⟩ = some v) : w'.cell? ⟨b, o, none⟩ = some v :=
  (hb.cell (p := ⟨b, o, none⟩) (World.block_lt_of_cell? _ _ h)).trans h
theorem Two.below {w w' : World} {a b : Nat} {k p g k' p' g' : Int} (h : Two w a b k p g k' p' g') (hb : Below w.heap.size w w') : Two w' a b k p g k' p' g' :=
  ⟨cell_keeps hb h.1, cell_keeps hb h.2.1, cell_keeps hb h.2.2.1, cell_keeps hb h.2.2.2.1, cell_keeps hb h.2.2.2.2.1, cell_keeps hb h.2.2.2.2.2⟩

theorem Two.up {W : World} {a b : Nat} {k p g k' p' g' : Int} (h : Two W a b k p g k' p' g') (o : Obj) : Two (W.alloc o) a b k p g k' p' g' := h.below ((Below.refl _ _).alloc (Nat.le_refl _) _)
theorem Two.dr {W : World} {a b : Nat} {k p g k' p' g' : Int} (h : Two W a b k p g k' p' g') : Two W.drew a b k p g k' p' g' := h.below (bel_dr _)
theorem Two.put {W : World} {a b c o : Nat} {v : Value} {k p g k' p' g' : Int} (h : Two W a b k p g k' p' g') (h1 : a ≠ c) (h2 : b ≠ c) : Two (W.setCell ⟨c, o, none⟩ v) a b k p g k' p' g' := by
  obtain ⟨e1, e2, e3, e4, e5, e6⟩ := h
  refine ⟨?_, ?_, ?_, ?_, ?_, ?_⟩ <;> go_simp
theorem Two.lt {W : World} {a b : Nat} {k p g k' p' g' : Int} (h : Two W a b k p g k' p' g') : a < W.heap.size ∧ b < W.heap.size := ⟨World.block_lt_of_cell? _ _ h.1, World.block_lt_of_cell? _ _ h.2.2.2.1⟩

theorem full_slice (W : World) (b : Nat) : (Instr.sliceAt 62 (.pointer (some ⟨b, 0, none⟩)) none none none).run Tryd.prog W = .ok (.slice (some ⟨b, 0, none⟩) 3 3) W := by
  kernel_rfl


/-- Three zeros in a new block; three numbers in one. -/
structure Z3 (w : World) (x : Nat) : Prop where
  c0 : w.cell? ⟨x, 0, none⟩ = some (.int .i64 0)
  c1 : w.cell? ⟨x, 1, none⟩ = some (.int .i64 0)
  c2 : w.cell? ⟨x, 2, none⟩ = some (.int .i64 0)
  f0 : w.frozen? ⟨x, 0, none⟩ = false
  f1 : w.frozen? ⟨x, 1, none⟩ = false
  f2 : w.frozen? ⟨x, 2, none⟩ = false
structure V3 (w : World) (x : Nat) (k p g : Int) : Prop where
  c0 : w.cell? ⟨x, 0, none⟩ = some (.int .i64 k)
  c1 : w.cell? ⟨x, 1, none⟩ = some (.int .i64 p)
  c2 : w.cell? ⟨x, 2, none⟩ = some (.int .i64 g)
theorem Z3.lt {w : World} {x : Nat} (h : Z3 w x) : x < w.heap.size := World.block_lt_of_cell? _ _ h.c0
theorem V3.lt {w : World} {x : Nat} {k p g : Int} (h : V3 w x k p g) : x < w.heap.size := World.block_lt_of_cell? _ _ h.c0
theorem Z3.below {w w' : World} {x : Nat} (h : Z3 w x) (hb : Below w.heap.size w w') : Z3 w' x :=
  ⟨cell_keeps hb h.c0, cell_keeps hb h.c1, cell_keeps hb h.c2, (hb.frozen (p := ⟨x, 0, none⟩) h.lt).trans h.f0, (hb.frozen (p := ⟨x, 1, none⟩) h.lt).trans h.f1, (hb.frozen (p := ⟨x, 2, none⟩) h.lt).trans h.f2⟩
theorem V3.below {w w' : World} {x : Nat} {k p g : Int} (h : V3 w x k p g) (hb : Below w.heap.size w w') : V3 w' x k p g := ⟨cell_keeps hb h.c0, cell_keeps hb h.c1, cell_keeps hb h.c2⟩
theorem Z3.new (w : World) (T : TypeId) : Z3 (w.alloc (.cells #[.int .i64 0, .int .i64 0, .int .i64 0] T)) w.heap.size := by constructor <;> go_simp

theorem up4 {b4 b6 : Bool} {s v : Value} {n x A B : Nat} {k p g : Int} {w w' : World} (e : b4 = true → s = v ∧ n ≤ x ∧ A ≠ x ∧ B ≠ x ∧ (b6 = false → Z3 w x) ∧ (b6 = true → V3 w x k p g)) (hb : Below w.heap.size w w') :
    b4 = true → s = v ∧ n ≤ x ∧ A ≠ x ∧ B ≠ x ∧ (b6 = false → Z3 w' x) ∧ (b6 = true → V3 w' x k p g) := fun h => by
  obtain ⟨h1, h2, h3, h4, h5, h6⟩ := e h
  exact ⟨h1, h2, h3, h4, fun q => (h5 q).below hb, fun q => (h6 q).below hb⟩
theorem lt4 {b6 : Bool} {x : Nat} {k p g : Int} {w : World} (h5 : b6 = false → Z3 w x) (h6 : b6 = true → V3 w x k p g) : x < w.heap.size := by
  cases b6 with
  | false => exact (h5 rfl).lt
  | true => exact (h6 rfl).lt

theorem Z3.put {w : World} {x c o : Nat} {v : Value} (h : Z3 w x) (hne : x ≠ c) : Z3 (w.setCell ⟨c, o, none⟩ v) x := by
  obtain ⟨e1, e2, e3, e4, e5, e6⟩ := h
  constructor <;> go_simp
theorem V3.put {w : World} {x c o : Nat} {v : Value} {k p g : Int} (h : V3 w x k p g) (hne : x ≠ c) : V3 (w.setCell ⟨c, o, none⟩ v) x k p g := by
  obtain ⟨e1, e2, e3⟩ := h
  constructor <;> go_simp
theorem V3.set {w : World} {x : Nat} {k p g : Int} (h : Z3 w x) : V3 (((w.setCell ⟨x, 0, none⟩ (.int .i64 k)).setCell ⟨x, 1, none⟩ (.int .i64 p)).setCell ⟨x, 2, none⟩ (.int .i64 g)) x k p g := by
  obtain ⟨e1, e2, e3, e4, e5, e6⟩ := h
  constructor <;> go_simp

theorem V3.a3 {w : World} {x : Nat} {k p g : Int} (h : V3 w x k p g) : A3 w x (fun j => if j = 0 then k else if j = 1 then p else g) := fun j hj => by
  have : j = 0 ∨ j = 1 ∨ j = 2 := by omega
  rcases this with rfl | rfl | rfl
  · exact h.c0
  · exact h.c1
  · exact h.c2

/-- What holds while the two names are made, by what has come up. -/
def JO (F : Value → Value → Value → Value → Value → Value → Act) (A B : Nat) (k p g k' p' g' : Int) (w0 : World) (b0 b1 b2 b3 b4 b5 b6 b7 : Bool) (a : Act) (w : World) : Prop :=
  ∃ (s5 s6 s7 s8 s9 s10 : Value) (x y : Nat), a = F s5 s6 s7 s8 s9 s10 ∧ Two w A B k p g k' p' g' ∧ Below w0.heap.size w0 w ∧
    (b0 = true → s7 = .agg #[.int .i64 k, .int .i64 p, .int .u32 g]) ∧ (b1 = true → s8 = .agg #[.int .i64 k, .int .i64 p, .int .i64 g]) ∧
    (b2 = true → s9 = .agg #[.int .i64 k', .int .i64 p', .int .u32 g']) ∧ (b3 = true → s10 = .agg #[.int .i64 k', .int .i64 p', .int .i64 g']) ∧
    (b4 = true → s5 = .pointer (some ⟨x, 0, none⟩) ∧ w0.heap.size ≤ x ∧ A ≠ x ∧ B ≠ x ∧ (b6 = false → Z3 w x) ∧ (b6 = true → V3 w x k p g)) ∧
    (b5 = true → s6 = .pointer (some ⟨y, 0, none⟩) ∧ w0.heap.size ≤ y ∧ A ≠ y ∧ B ≠ y ∧ (b7 = false → Z3 w y) ∧ (b7 = true → V3 w y k' p' g')) ∧
    (b4 = true → b5 = true → x ≠ y) ∧ (b6 = true → b4 = true) ∧ (b7 = true → b5 = true)

set_option maxHeartbeats 1000000 in
theorem order_walk (k p g k' p' g' : Int) (h1 : Rg k p g) (h2 : Rg k' p' g') (w : World) :
    Calls Tryd.prog 30 #[.agg #[.int .i64 k, .int .i64 p, .int .u32 g], .agg #[.int .i64 k', .int .i64 p', .int .u32 g']] w fun e w' => e = .returned (.int .i64 (cmps (fun j => if j = 0 then k else if j = 1 then p else g) (fun j => if j = 0 then k' else if j = 1 then p' else g'))) ∧ Below w.heap.size w w' := by
  have H1 := Lib.hid h1
  have H2 := Lib.hid h2
  have hx : ∀ j : Nat, -9223372036854775808 ≤ (if j = 0 then k else if j = 1 then p else g) ∧ (if j = 0 then k else if j = 1 then p else g) ≤ 9223372036854775807 := fun j => by
    obtain ⟨q1, q2, q3, q4, q5, q6⟩ := h1
    split
    · omega
    · split <;> omega
  have hy : ∀ j : Nat, -9223372036854775808 ≤ (if j = 0 then k' else if j = 1 then p' else g') ∧ (if j = 0 then k' else if j = 1 then p' else g') ≤ 9223372036854775807 := fun j => by
    obtain ⟨q1, q2, q3, q4, q5, q6⟩ := h2
    split
    · omega
    · split <;> omega
  have hsl := full_slice
  clear h1 h2
  go_enter Tryd.func30, Tryd.ntmps30
  go_wp2
  refine region_inv (JO (fun s5 s6 s7 s8 s9 s10 => ⟨#[.agg #[.int .i64 k, .int .i64 p, .int .u32 g], .agg #[.int .i64 k', .int .i64 p', .int .u32 g'], .pointer (some ⟨w.heap.size, 0, none⟩), .pointer (some ⟨w.heap.size + 1, 0, none⟩), .int .i64 0, s5, s6, s7, s8, s9, s10, undef, undef, undef], []⟩) w.heap.size (w.heap.size + 1) k p g k' p' g' w) (by kernel_rfl) rfl ?_ ?_ ?_
  · refine ⟨undef, undef, undef, undef, undef, undef, 0, 0, rfl, ?_, ?_, (fun h => by cases h), (fun h => by cases h), (fun h => by cases h), (fun h => by cases h), (fun h => by cases h), (fun h => by cases h), (fun h => by cases h), (fun h => by cases h), (fun h => by cases h)⟩
    · refine ⟨?_, ?_, ?_, ?_, ?_, ?_⟩ <;> go_simp
    · exact (((Below.refl _ _).alloc (Nat.le_refl _) _).alloc (by simp) _).trans ((bel_dr _).mono (by simp; omega))
  · intro b0 b1 b2 b3 b4 b5 b6 b7 a W hJ i hi
    obtain ⟨g1, o, ho, g2⟩ := mem_ready.1 hi
    obtain ⟨s5, s6, s7, s8, s9, s10, x, y, rfl, hT, hB, e0, e1, e2, e3, e4, e5, exy, d6, d7⟩ := hJ
    rcases i with _ | _ | _ | _ | _ | _ | _ | _ | i
    all_goals clear hi
    all_goals simp at ho
    all_goals subst ho
    all_goals simp [Region.binds] at g1 g2
    · subst g1
      obtain ⟨c0, c1, c2, c3, c4, c5⟩ := hT
      refine wpOp_of rfl rfl ?_
      go_simp
      exact ⟨s5, s6, _, s8, s9, s10, x, y, rfl, ⟨c0, c1, c2, c3, c4, c5⟩, hB, fun _ => rfl, by simpa using e1, by simpa using e2, by simpa using e3, by simpa using e4, by simpa using e5, by simpa using exy, by simpa using d6, by simpa using d7⟩
    · subst g1 g2
      obtain rfl := e0 rfl
      refine wpOp_of rfl rfl ?_
      go_simp
      refine (ofDesc_ok k p g H1.out _).mono ?_
      rintro e W' ⟨rfl, hb⟩
      exact ⟨s5, s6, _, _, s9, s10, x, y, rfl, hT.below hb, bel2 hB hb, fun _ => rfl, fun _ => rfl, by simpa using e2, by simpa using e3, by simpa using up4 e4 hb, by simpa using up4 e5 hb, by simpa using exy, by simpa using d6, by simpa using d7⟩
    · subst g1
      obtain ⟨c0, c1, c2, c3, c4, c5⟩ := hT
      refine wpOp_of rfl rfl ?_
      go_simp
      exact ⟨s5, s6, s7, s8, _, s10, x, y, rfl, ⟨c0, c1, c2, c3, c4, c5⟩, hB, by simpa using e0, by simpa using e1, fun _ => rfl, by simpa using e3, by simpa using e4, by simpa using e5, by simpa using exy, by simpa using d6, by simpa using d7⟩
    · obtain ⟨rfl, rfl⟩ := g2
      subst g1
      obtain rfl := e2 rfl
      obtain rfl := e1 rfl
      refine wpOp_of rfl rfl ?_
      go_simp
      refine (ofDesc_ok k' p' g' H2.out _).mono ?_
      rintro e W' ⟨rfl, hb⟩
      exact ⟨s5, s6, s7, _, _, _, x, y, rfl, hT.below hb, bel2 hB hb, by simpa using e0, fun _ => rfl, fun _ => rfl, fun _ => rfl, by simpa using up4 e4 hb, by simpa using up4 e5 hb, by simpa using exy, by simpa using d6, by simpa using d7⟩
    · subst g1
      have hb : Below W.heap.size W (W.alloc (.cells #[.int .i64 0, .int .i64 0, .int .i64 0] 62)) := (Below.refl _ _).alloc (Nat.le_refl _) _
      have hl := hT.lt
      refine wpOp_of rfl rfl ?_
      go_simp
      refine ⟨_, s6, s7, s8, s9, s10, W.heap.size, y, rfl, hT.below hb, bel2 hB hb, by simpa using e0, by simpa using e1, by simpa using e2, by simpa using e3, fun _ => ⟨rfl, by have := hB.size; omega, by omega, by omega, fun _ => Z3.new W _, fun h => ?_⟩, by simpa using up4 e5 hb, fun _ h => ?_, fun _ => rfl, by simpa using d7⟩
      · exfalso
        have := d6 (by simpa using h)
        cases this
      · obtain ⟨_, _, _, _, q5, q6⟩ := e5 (by simpa using h)
        have := lt4 q5 q6
        omega
    · subst g1
      have hb : Below W.heap.size W (W.alloc (.cells #[.int .i64 0, .int .i64 0, .int .i64 0] 62)) := (Below.refl _ _).alloc (Nat.le_refl _) _
      have hl := hT.lt
      refine wpOp_of rfl rfl ?_
      go_simp
      refine ⟨s5, _, s7, s8, s9, s10, x, W.heap.size, rfl, hT.below hb, bel2 hB hb, by simpa using e0, by simpa using e1, by simpa using e2, by simpa using e3, by simpa using up4 e4 hb, fun _ => ⟨rfl, by have := hB.size; omega, by omega, by omega, fun _ => Z3.new W _, fun h => ?_⟩, fun h _ => ?_, by simpa using d6, fun _ => rfl⟩
      · exfalso
        have := d7 (by simpa using h)
        cases this
      · obtain ⟨_, _, _, _, q5, q6⟩ := e4 (by simpa using h)
        have := lt4 q5 q6
        omega
    · obtain ⟨rfl, rfl, rfl, rfl, -, -, -, rfl⟩ := g2
      subst g1
      obtain rfl := e0 rfl
      obtain rfl := e1 rfl
      obtain rfl := e3 rfl
      obtain ⟨rfl, hx1, hx2, hx3, hz, -⟩ := e4 rfl
      obtain ⟨rfl, hy1, hy2, hy3, hz', hv'⟩ := e5 rfl
      have hxy := exy rfl rfl
      have hZ := hz rfl
      obtain ⟨z0, z1, z2, f0, f1, f2⟩ := hz rfl
      refine wpOp_of rfl rfl ?_
      go_simp
      exact ⟨_, _, _, _, s9, _, x, y, rfl, ((hT.put hx2 hx3).put hx2 hx3).put hx2 hx3, ((hB.setCell hx1 _).setCell hx1 _).setCell hx1 _, fun _ => rfl, fun _ => rfl, by simpa using e2, fun _ => rfl, fun _ => ⟨rfl, hx1, hx2, hx3, (fun h => by cases h), fun _ => V3.set hZ⟩,
        fun _ => ⟨rfl, hy1, hy2, hy3, fun h => (((hz' (by simpa using h)).put (Ne.symm hxy)).put (Ne.symm hxy)).put (Ne.symm hxy), fun h => (((hv' (by simpa using h)).put (Ne.symm hxy)).put (Ne.symm hxy)).put (Ne.symm hxy)⟩, fun _ _ => hxy, fun _ => rfl, fun _ => rfl⟩
    · obtain ⟨rfl, rfl, rfl, rfl, rfl, rfl, -, rfl, -, -⟩ := g2
      subst g1
      obtain rfl := e0 rfl
      obtain rfl := e1 rfl
      obtain rfl := e2 rfl
      obtain rfl := e3 rfl
      obtain ⟨rfl, hy1, hy2, hy3, hz, -⟩ := e5 rfl
      obtain ⟨rfl, hx1, hx2, hx3, hz', hv'⟩ := e4 rfl
      have hxy := exy rfl rfl
      have hZ := hz rfl
      obtain ⟨z0, z1, z2, f0, f1, f2⟩ := hz rfl
      refine wpOp_of rfl rfl ?_
      go_simp
      exact ⟨_, _, _, _, _, _, x, y, rfl, ((hT.put hy2 hy3).put hy2 hy3).put hy2 hy3, ((hB.setCell hy1 _).setCell hy1 _).setCell hy1 _, fun _ => rfl, fun _ => rfl, fun _ => rfl, fun _ => rfl,
        fun _ => ⟨rfl, hx1, hx2, hx3, (fun h => by simp at h), fun _ => (((hv' rfl).put hxy).put hxy).put hxy⟩, fun _ => ⟨rfl, hy1, hy2, hy3, (fun h => by cases h), fun _ => V3.set hZ⟩, fun _ _ => hxy, fun _ => rfl, fun _ => rfl⟩
  · intro b0 b1 b2 b3 b4 b5 b6 b7 a W hJ hr
    have hm : ∀ j, ¬ j ∈ Region.ready .any _ _ := fun j h => by rw [hr] at h; cases h
    have m0 := fun q => hm 0 (mem_ready.2 q)
    have m1 := fun q => hm 1 (mem_ready.2 q)
    have m2 := fun q => hm 2 (mem_ready.2 q)
    have m3 := fun q => hm 3 (mem_ready.2 q)
    have m4 := fun q => hm 4 (mem_ready.2 q)
    have m5 := fun q => hm 5 (mem_ready.2 q)
    have m6 := fun q => hm 6 (mem_ready.2 q)
    have m7 := fun q => hm 7 (mem_ready.2 q)
    clear hm hr
    simp [Region.binds] at m0 m2 m4 m5
    subst m0 m2 m4 m5
    simp [Region.binds] at m1
    subst m1
    simp [Region.binds] at m3
    subst m3
    simp [Region.binds] at m6
    subst m6
    simp [Region.binds] at m7
    subst m7
    obtain ⟨s5, s6, s7, s8, s9, s10, x, y, rfl, hT, hB, e0, e1, e2, e3, e4, e5, exy, d6, d7⟩ := hJ
    obtain ⟨rfl, -, -, -, -, hv⟩ := e4 rfl
    obtain ⟨rfl, -, -, -, -, hv'⟩ := e5 rfl
    have hV := hv rfl
    have hV' := hv' rfl
    clear e0 e1 e2 e3 e4 e5 exy hv hv' hT
    have hA := (hV.below (bel_dr W)).a3
    have hA' := (hV'.below (bel_dr W)).a3
    have HC := Lib.hid (scmp_ok x y _ _ hx hy W.drew hA hA')
    clear hA hA' hx hy hV hV'
    go_wp2
    go_region_with (go_at_call 44; refine HC.out.mono ?_; rintro e w' ⟨rfl, rfl⟩)
    go_wp2
    go_ret
    exact ⟨rfl, bel2 hB (bel_dr _)⟩
end Go.Proofs.YtnjmlecbljeofaaDoor
