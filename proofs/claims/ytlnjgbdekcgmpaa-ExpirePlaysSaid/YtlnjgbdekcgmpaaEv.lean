/- The contract of the document's Drop. -/
import Derived.Test.YtlnjgbdekcgmpaaEt
namespace Go.Proofs.Ytlnjgbdekcgmpaa
open Go.RowKit

/-- While the region of Drop runs. -/
def JD (w : World) (b i : Nat) (y : Int) (L : List En) (V s18 s26 : Value) (f : Nat → Bool) (a : Act) (W : World) : Prop :=
  ∃ x12 x19 x27, a = ⟨#[.pointer (some ⟨b, 0, none⟩), .int .i64 y, undef, undef, .bool false, .int .i64 i, .pointer (some ⟨b, 0, none⟩), .int .i64 y, .int .i64 i, .int .i64 i, .bool (decide ((i : Int) < 0)),
      sel (f 0) (.pointer (some ⟨b, 0, none⟩)), sel (f 1) x12, sel (f 2) (.pointer (some ⟨b, 0, none⟩)), sel (f 3) (.pointer (some ⟨b, 0, none⟩)), sel (f 4) (.pointer (some ⟨b, 1, none⟩)), sel (f 5) V, sel (f 6) (.int .i64 i), sel (f 7) s18, sel (f 8) x19,
      sel (f 9) (.pointer (some ⟨b, 0, none⟩)), sel (f 10) (.pointer (some ⟨b, 0, none⟩)), sel (f 11) (.pointer (some ⟨b, 1, none⟩)), sel (f 12) V, sel (f 13) (.int .i64 i), sel (f 14) (.int .i64 ((i : Int) + 1)), sel (f 15) s26, sel (f 16) x27,
      sel (f 17) (.pointer (some ⟨b, 0, none⟩)), sel (f 18) (.pointer (some ⟨b, 1, none⟩))], []⟩ ∧ Below w.heap.size w W ∧
    (f 1 = true → f 8 = false → W.ownsRow w.heap.size 63 2 x12 0 (cl2 [])) ∧
    (f 8 = true → f 16 = false → W.ownsRow w.heap.size 63 2 x19 (L.take i).length (cl2 (L.take i))) ∧
    (f 16 = true → W.ownsRow w.heap.size 63 2 x27 (L.take i ++ L.drop (i + 1)).length (cl2 (L.take i ++ L.drop (i + 1))))

/-- What a call makes of the document's queue. -/
def RPost (b : Nat) (v : Value) (L : List En) (w w' : World) : Prop := ∃ v', RqW w' b v' L ∧ Kept (· = b) w w' ∧ ∀ g, v'.ownBlock = some g → v.ownBlock = some g ∨ w.heap.size ≤ g
/-- The new row, stored. -/
theorem rpost_of {w W : World} {b : Nat} {v u : Value} {L M : List En} (h : RqW w b v L) (hB : Below w.heap.size w W) (ho : W.ownsRow w.heap.size 63 2 u M.length (cl2 M)) (hr : ∀ e ∈ M, I64 e.1 ∧ I64 e.2) (hl : M.length ≤ 256) : RPost b v M w (W.setCell ⟨b, 1, none⟩ u) := by
  have hb := h.hb.below hB
  have hlt := h.hb.lt
  have hub : u.ownBlock ≠ some b := fun e => by have := (ho.lt b e).1; omega
  refine ⟨u, ⟨hb.put 1 u, own_lower (own_same ho fun g hg => Below.heap_setCell _ _ _ _ (by rintro rfl; exact hub hg)) (Nat.zero_le _), hr, hl⟩, ?_, fun g hg => .inr (ho.lt g hg).1⟩
  exact (Kept.of_below (S := (· = b)) hB).put (p := ⟨b, 1, none⟩) (.inr rfl) u

set_option maxHeartbeats 4000000 in
theorem rdrop_hit (b g c i : Nat) (L : List En) (x : En) (w : World) (h : RqW w b (.slice (some ⟨g, 0, none⟩) L.length c) L) (hf : fnd L x.1 = i) (hx : L[i]? = some x) (hcn : L.length ≤ c) (hcm : c ≤ maxLen) (hd : del L x.1 = L.take i ++ L.drop (i + 1)) : Calls Try.prog 17 #[.pointer (some ⟨b, 0, none⟩), .int .i64 x.1] w fun e w' => e = .returned (.bool true) ∧ RPost b (.slice (some ⟨g, 0, none⟩) L.length c) (del L x.1) w w' := by
  have FI := Lib.hid (find_ok b _ L x.1 w h)
  rw [hf] at FI
  rw [hd]
  have hi2 := (List.getElem?_eq_some_iff.1 hx).1
  obtain ⟨y, hy⟩ : ∃ y, x.1 = y := ⟨_, rfl⟩
  rw [hy] at FI ⊢
  have hl := h.len
  have R1 : Hid (∀ W, Below w.heap.size w W → RdN W (some ⟨g, 0, none⟩) i c (L.take i)) := fun W hB => by
    have := rd_part (h.below hB) 0 i (Nat.zero_le _) (by omega) ⟨g, 0, none⟩ (fun _ => rfl) c
    simpa using this
  have R2 : Hid (∀ W, Below w.heap.size w W → RdN W (if c = i + 1 then some ⟨g, 0, none⟩ else some ⟨g, (i + 1) * 2, none⟩) (L.length - (i + 1)) (c - (i + 1)) (L.drop (i + 1))) := fun W hB => by
    have e : (if c = i + 1 then some (⟨g, 0, none⟩ : Addr) else some ⟨g, (i + 1) * 2, none⟩) = some (if c = i + 1 then ⟨g, 0, none⟩ else ⟨g, (i + 1) * 2, none⟩) := by split <;> rfl
    rw [e]
    have := rd_part (h.below hB) (i + 1) L.length (by omega) (Nat.le_refl _) (if c = i + 1 then ⟨g, 0, none⟩ else ⟨g, (i + 1) * 2, none⟩) (fun h => if_neg (by omega)) (c - (i + 1))
    rwa [List.take_of_length_le (l := L.drop (i + 1)) (by rw [List.length_drop]; exact Nat.le_refl _)] at this
  have PO : Hid (∀ W u, Below w.heap.size w W → W.ownsRow w.heap.size 63 2 u (L.take i ++ L.drop (i + 1)).length (cl2 (L.take i ++ L.drop (i + 1))) → RPost b (.slice (some ⟨g, 0, none⟩) L.length c) (L.take i ++ L.drop (i + 1)) w (W.setCell ⟨b, 1, none⟩ u)) := fun W u hB ho =>
    rpost_of h hB ho (fun e he => by
      rcases List.mem_append.1 he with h1 | h1
      · exact h.rg e (List.mem_of_mem_take h1)
      · exact h.rg e (List.mem_of_mem_drop h1)) (by rw [List.length_append, List.length_take, List.length_drop]; omega)
  have CV : Hid (∀ W, Below w.heap.size w W → W.cell? ⟨b, 1, none⟩ = some (.slice (some ⟨g, 0, none⟩) L.length c) ∧ W.frozen? ⟨b, 1, none⟩ = false) := fun W hB => ⟨cell_keeps hB h.c1, (h.hb.below hB).frozen 1⟩
  have hll : (L.take i).length + (L.drop (i + 1)).length ≤ 256 := by rw [List.length_take, List.length_drop]; omega
  have HLL := Lib.hid hll
  clear h hf hx hd hll hy
  obtain ⟨a26, ha26⟩ : ∃ a26, (if c = i + 1 then some (⟨g, 0, none⟩ : Addr) else some ⟨g, (i + 1) * 2, none⟩) = a26 := ⟨_, rfl⟩
  simp only [ha26] at R2
  obtain ⟨n, hn⟩ : ∃ n, L.length = n := ⟨_, rfl⟩
  rw [hn] at hi2 hl hcn CV R2 PO ⊢
  have hic : i ≤ c := by omega
  have hin : (i : Int) + 1 ≤ n := by omega
  have hi0 : (0 : Int) ≤ i + 1 := by omega
  have hcm' : c ≤ 9223372036854775807 := by unfold maxLen at hcm; omega
  have hwr : IntKind.i64.wrap ((i : Int) + 1) = i + 1 := by rw [IntKind.wrap_i64]; omega
  clear hcm hn
  go_enter Try.func17, Try.ntmps17
  go_wp2_with (go_at_call 35; refine FI.out.mono ?_; rintro e w' ⟨rfl, rfl⟩)
  clear FI
  refine region_last 19 (JD w b i y L (.slice (some ⟨g, 0, none⟩) n c) (.slice (some ⟨g, 0, none⟩) i c) (.slice a26 (n - (i + 1)) (c - (i + 1)))) (by kernel_rfl) rfl ?_ ?_ ?_ ?_ ?_
  · intro i o ho
    rcases i with _ | _ | _ | _ | _ | _ | _ | _ | _ | _ | _ | _ | _ | _ | _ | _ | _ | _ | _ | _ | i
    all_goals simp at ho
    all_goals subst ho
    all_goals simp [Region.binds]
  · intro f hcl hp i hi
    have h1 := hp _ rfl
    have h2 := fun h => hcl 18 _ rfl h
    simp [Region.binds] at h1 h2
    obtain ⟨k18, k16, k0, k1, k2, k3, k4, k5, k6, k7, k8, k9, k10, k11, k12, k13, k14, k15, _⟩ := h1
    obtain ⟨k17, _⟩ := h2 k18
    rcases i with _ | _ | _ | _ | _ | _ | _ | _ | _ | _ | _ | _ | _ | _ | _ | _ | _ | _ | _ | i
    all_goals try simp only [Nat.zero_add, Nat.reduceAdd] at hi ⊢
    all_goals first | assumption | omega
  · refine ⟨undef, undef, undef, rfl, bel_drew (Below.refl _ _), (fun h => by cases h), (fun h => by cases h), (fun h => by cases h)⟩
  · rintro f a W ⟨x12, x19, x27, rfl, hB, h12, h19, h27⟩ hcl i' o ho hi' hfi hpre
    have hcv := (CV.out W hB).1
    have c8 := fun h => hcl 8 _ rfl h
    have c16 := fun h => hcl 16 _ rfl h
    simp [Region.binds] at c8 c16
    clear hcl
    rcases i' with _ | _ | _ | _ | _ | _ | _ | _ | _ | _ | _ | _ | _ | _ | _ | _ | _ | _ | _ | i'
    rotate_right
    · exfalso; omega
    all_goals try simp only [Nat.zero_add, Nat.reduceAdd] at hfi ho ⊢
    all_goals simp at ho
    all_goals subst ho
    all_goals simp [Region.binds] at hpre
    all_goals clear hi'
    all_goals try (refine wpOp_of rfl rfl ?_; (try simp only [hpre, sel_true]); go_simp; refine ⟨x12, x19, x27, ?_, hB, h12, h19, h27⟩; simp only [more, sel, hfi, hpre, hwr, ha26]; rfl)
    · refine wpOp_of rfl rfl ?_
      go_simp
      refine ⟨.slice (some ⟨W.heap.size, 0, none⟩) 0 0, x19, x27, ?_, hB.alloc hB.size _, fun _ _ => ?_, fun h => absurd (c8 h).1 (by rw [hfi]; decide), fun h => absurd (c8 (c16 h).1).1 (by rw [hfi]; decide)⟩
      · simp only [more, sel, hfi]; rfl
      · exact World.ownsRow_lit W #[] 0 hB.size (by decide) rfl
    · obtain ⟨a', n', c', W', hrun, hown, hk, hat⟩ := app_w (M := L.take i) (L := []) (h12 hpre.1 hfi) (R1.out W hB) (by have := HLL.out; simp only [List.length_nil]; omega) hB.size
      refine wpOp_of rfl rfl (Lib.wp_append_run W _ _ _ _ rfl x12 (.slice (some ⟨g, 0, none⟩) i c) (by simp only [hpre, sel_true]; rfl) (by simp only [hpre, sel_true]; rfl) _ _ hrun ?_)
      refine ⟨x12, .slice a' n' c', x27, ?_, hB.trans (hk.below hB.size fun k e => ((h12 hpre.1 hfi).lt k e).1), fun _ h => absurd h (by simp [more]), fun _ _ => hown, fun h => absurd (c16 h).1 (by rw [hfi]; decide)⟩
      simp only [more, sel, hfi, hpre]; rfl
    · obtain ⟨a', n', c', W', hrun, hown, hk, hat⟩ := app_w (M := L.drop (i + 1)) (L := L.take i) (h19 hpre.1 hfi) (R2.out W hB) (by have := HLL.out; omega) hB.size
      refine wpOp_of rfl rfl (Lib.wp_append_run W _ _ _ _ rfl x19 (.slice a26 (n - (i + 1)) (c - (i + 1))) (by simp only [hpre, sel_true]; rfl) (by simp only [hpre, sel_true]; rfl) _ _ hrun ?_)
      refine ⟨x12, x19, .slice a' n' c', ?_, hB.trans (hk.below hB.size fun k e => ((h19 hpre.1 hfi).lt k e).1), fun _ h => absurd (show f 8 = false from h) (by rw [hpre.1]; decide), fun _ h => absurd h (by simp [more]), fun _ => hown⟩
      simp only [more, sel, hfi, hpre]; rfl
  · rintro f a W ⟨x12, x19, x27, rfl, hB, h12, h19, h27⟩ hal
    obtain ⟨k0, k1, k2, k3, k4, k5, k6, k7, k8, k9⟩ : (f 0 = true ∧ f 1 = true ∧ f 2 = true ∧ f 3 = true ∧ f 4 = true ∧ f 5 = true ∧ f 6 = true ∧ f 7 = true ∧ f 8 = true ∧ f 9 = true) := ⟨hal _ (by decide), hal _ (by decide), hal _ (by decide), hal _ (by decide), hal _ (by decide), hal _ (by decide), hal _ (by decide), hal _ (by decide), hal _ (by decide), hal _ (by decide)⟩
    obtain ⟨k10, k11, k12, k13, k14, k15, k16, k17, k18⟩ : (f 10 = true ∧ f 11 = true ∧ f 12 = true ∧ f 13 = true ∧ f 14 = true ∧ f 15 = true ∧ f 16 = true ∧ f 17 = true ∧ f 18 = true) := ⟨hal _ (by decide), hal _ (by decide), hal _ (by decide), hal _ (by decide), hal _ (by decide), hal _ (by decide), hal _ (by decide), hal _ (by decide), hal _ (by decide)⟩
    have ho := h27 k16
    obtain ⟨hcv, hfz⟩ := CV.out W hB
    obtain ⟨a3, n3, c3, rfl⟩ := own_slice ho
    have HP := Lib.hid (PO.out W _ hB ho)
    clear ho h12 h19 h27 hal hB
    refine wpOp_of rfl rfl ?_
    simp only [k0, k1, k2, k3, k4, k5, k6, k7, k8, k9, k10, k11, k12, k13, k14, k15, k16, k17, k18, sel_true]
    clear k0 k1 k2 k3 k4 k5 k6 k7 k8 k9 k10 k11 k12 k13 k14 k15 k16 k17 k18
    go_simp
    go_wp2
    go_ret
    exact ⟨rfl, HP.out⟩
theorem rdrop_miss (b : Nat) (v : Value) (L : List En) (i : Int) (w : World) (h : RqW w b v L) (hf : fnd L i = -1) : Calls Try.prog 17 #[.pointer (some ⟨b, 0, none⟩), .int .i64 i] w fun e w' => e = .returned (.bool false) ∧ w = w' := by
  have FI := Lib.hid (find_ok b _ L i w h)
  rw [hf] at FI
  clear h hf
  go_enter Try.func17, Try.ntmps17
  go_wp2_with (go_at_call 35; refine FI.out.mono ?_; rintro e w' ⟨rfl, rfl⟩)
  go_ret
  exact ⟨rfl, rfl⟩
theorem RPost.refl {b : Nat} {v : Value} {L : List En} {w : World} (h : RqW w b v L) : RPost b v L w w := ⟨v, h, Kept.refl _ _, fun _ h => .inl h⟩
theorem rdrop_ok (b : Nat) (v : Value) (L : List En) (i : Int) (w : World) (hs : Srt L) (hn : Nod L) (h : RqW w b v L) : Calls Try.prog 17 #[.pointer (some ⟨b, 0, none⟩), .int .i64 i] w fun e w' => e = .returned (.bool (tm L i).isSome) ∧ RPost b v (del L i) w w' := by
  rcases fnd_cases L i with ⟨h1, h2⟩ | ⟨j, x, h1, h2, rfl, h4⟩
  · rw [h2, del_none h2]
    refine (rdrop_miss b v L i w h h1).mono ?_
    rintro e w' ⟨rfl, rfl⟩
    exact ⟨rfl, RPost.refl h⟩
  · rw [h4]
    obtain ⟨a, c, rfl, hc1, hc2, _, hcell⟩ := h.form
    obtain ⟨g, rfl, _⟩ := hcell j x h2
    have hj : pos L x = j := by
      have k := place_at hs hn (List.mem_of_getElem? h2)
      rcases Nat.lt_trichotomy (pos L x) j with hlt | he | hlt
      · obtain ⟨k1, k2⟩ := List.getElem?_eq_some_iff.1 k
        obtain ⟨k3, k4⟩ := List.getElem?_eq_some_iff.1 h2
        have := List.pairwise_iff_getElem.1 hn _ _ k1 k3 hlt
        rw [k2, k4] at this; exact absurd rfl this
      · exact he
      · obtain ⟨k1, k2⟩ := List.getElem?_eq_some_iff.1 k
        obtain ⟨k3, k4⟩ := List.getElem?_eq_some_iff.1 h2
        have := List.pairwise_iff_getElem.1 hn _ _ k3 k1 hlt
        rw [k2, k4] at this; exact absurd rfl this
    have hd := place_del hs hn (List.mem_of_getElem? h2)
    rw [hj] at hd
    exact rdrop_hit b g c j L x w h h1 h2 hc1 hc2 hd
end Go.Proofs.Ytlnjgbdekcgmpaa
