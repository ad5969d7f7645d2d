/- The contracts of slices.Insert (one element) and of slices.Delete (one element), in words of rows of one's own. -/
import Derived.Test.YtlnjgbdekcgmpaaEc
import Derived.Test.YtlnjgbdekcgmpaaEs
namespace Go.Proofs.Ytlnjgbdekcgmpaa
open Go.RowKit Go.Lib Go.Sort

theorem own_new {w : World} {cap : Nat} {cur : Array Value} {l : List Int} (hs : cur.size = cap) (hl : l.length ≤ cap) (hm : cap ≤ maxLen) (hc : ∀ (j : Nat) (x : Int), l[j]? = some x → cur[j]? = some (Value.int .i64 x)) : (w.alloc (.cells cur 3)).ownsRow 0 3 1 (.slice (some ⟨w.heap.size, 0, none⟩) l.length cap) l.length (ints l) :=
  own_of_cells (Bk.new w 3 cur) hs hl hm fun j x hj => by rw [(Bk.new w 3 cur).cell]; exact hc j x hj
theorem kept_new {S : Nat → Prop} (w : World) (o : Obj) : Kept S w (w.drew.alloc o) := ((Kept.refl S w).drew).alloc o
theorem ints_get {l : List Int} {j : Nat} {v : Value} (h : (ints l)[j]? = some v) : ∃ x, l[j]? = some x ∧ v = .int .i64 x := by
  unfold ints at h
  rw [List.getElem?_map] at h
  obtain ⟨x, h1, h2⟩ := Option.map_eq_some_iff.1 h
  exact ⟨x, h1, h2.symm⟩
theorem cells_append {a : List Value} {z : Array Value} {j : Nat} {v : Value} (h : a[j]? = some v) : (a.toArray ++ z)[j]? = some v := by
  rw [Array.getElem?_append_left (by simpa using (List.getElem?_eq_some_iff.1 h).1)]
  simpa using h
theorem ints_drop (l : List Int) (i : Nat) : (ints l).drop i = ints (l.drop i) := by simp [ints]
theorem ints_take (l : List Int) (i : Nat) : (ints l).take i = ints (l.take i) := by simp [ints]
/-- What reads at a place of a list with one element put in. -/
theorem put_get {l : List Int} {i j : Nat} {x y : Int} (hi : i ≤ l.length) (h : (l.take i ++ x :: l.drop i)[j]? = some y) : (j < i ∧ l[j]? = some y) ∨ (j = i ∧ y = x) ∨ (i < j ∧ l[j - 1]? = some y) := by
  have hl : (l.take i).length = i := by rw [List.length_take]; omega
  by_cases h1 : j < i
  · rw [List.getElem?_append_left (by omega), List.getElem?_take_of_lt h1] at h
    exact .inl ⟨h1, h⟩
  · rw [List.getElem?_append_right (by omega), hl] at h
    by_cases h2 : j = i
    · subst h2
      rw [Nat.sub_self] at h
      exact .inr (.inl ⟨rfl, by simpa using h.symm⟩)
    · obtain ⟨q, hq⟩ : ∃ q, j - i = q + 1 := ⟨j - i - 1, by omega⟩
      rw [hq, List.getElem?_cons_succ, List.getElem?_drop] at h
      exact .inr (.inr ⟨by omega, by rw [← h]; congr 1; omega⟩)

def InsPost (v : Value) (n : Nat) (l : List Int) (w : World) (e : Ending) (w' : World) : Prop :=
  ∃ v', e = .returned v' ∧ w'.ownsRow 0 3 1 v' n (ints l) ∧ Kept (fun g => v.ownBlock = some g) w w' ∧ (v'.ownBlock = v.ownBlock ∨ ∃ g, v'.ownBlock = some g ∧ w.heap.size ≤ g)

theorem insert_ok (v : Value) (xs : List Int) (i : Nat) (hi : i ≤ xs.length) (vb : Nat) (x : Int) (w : World) (hrow : w.ownsRow 0 3 1 v xs.length (ints xs)) (hb : Bk w vb 3 #[.int .i64 x]) (hne : v.ownBlock ≠ some vb) (hl : xs.length ≤ 1000) :
    Calls Try.prog 39 #[v, .int .i64 i, .slice (some ⟨vb, 0, none⟩) 1 1] w (InsPost v (xs.length + 1) (xs.take i ++ x :: xs.drop i) w) := by
  have hvs : ∀ j u, [Value.int .i64 x][j]? = some u → w.cell? ⟨vb, 0 + j, none⟩ = some u := fun j u hj => by rw [hb.cell, Nat.zero_add]; simpa using hj
  have h1v : ∀ u ∈ [Value.int .i64 x], u.oneCell' = true := by intro u hu; rw [List.mem_singleton.1 hu]; rfl
  have hlen : (xs.take i ++ x :: xs.drop i).length = xs.length + 1 := by simp; omega
  have hend : i = xs.length → xs.take i ++ x :: xs.drop i = xs ++ [x] := by rintro rfl; simp
  rcases hrow.2 with ⟨rfl, h0⟩ | ⟨g, cap, cur, rfl, _, hg, hn, hcm, hcs, htk⟩
  · have hx : xs = [] := List.eq_nil_of_length_eq_zero h0
    subst hx
    obtain rfl : i = 0 := by simpa using hi
    refine (Any2.slices_Insert_int_end_grow Try.laysInsert none 0 0 vb 0 1 1 [] [.int .i64 x] w (by decide) (by decide) (by decide) (by decide) rfl rfl (fun _ => rfl) (fun _ h => by cases h) hvs h1v).mono ?_
    rintro e w' ⟨rfl, rfl⟩
    refine ⟨_, rfl, ?_, kept_new _ _, .inr ⟨_, rfl, Nat.le_refl _⟩⟩
    have := own_new (w := w.drew) (cap := grownCap w (0 + 1) 0 3) (cur := ([] ++ [Value.int .i64 x]).toArray ++ Builtin.zeroCells (Value.int .i64 0).cells (grownCap w (0 + 1) 0 3 - (0 + 1))) (l := [x]) ?_ ?_ ?_ ?_
    · exact this
    · have := grownCap_ge w (0 + 1) 0 3
      have e1 : ∀ q : Nat, 1 ≤ q → 1 + (q - 1) = q := by omega
      simp only [List.nil_append, Array.size_append, List.size_toArray, List.length_cons, List.length_nil, size_zeroCells, Value.cells]
      simpa using e1 _ this
    · exact grownCap_ge w (0 + 1) 0 3
    · exact grownCap_le_maxLen w _ _ _ (by decide)
    · intro j y hj
      exact cells_append (by have := ints_at hj; simpa [ints] using this)
  · have hg : Bk w g 3 cur := hg
    obtain ⟨_, _, _, _, _, _, hcell⟩ := own_cell hrow
    have hcl : (ints xs).length = xs.length := ints_length xs
    have hcc : ∀ j u, (ints xs)[j]? = some u → w.cell? ⟨g, 0 + j, none⟩ = some u := fun j u hj => by
      obtain ⟨y, hy, rfl⟩ := ints_get hj
      rw [Nat.zero_add]; exact hcell j y hy
    have hc63 : cap ≤ 9223372036854775807 := by unfold maxLen at hcm; omega
    have hS : (fun k => Value.ownBlock (.slice (some ⟨g, 0, none⟩) xs.length cap) = some k) g := rfl
    rw [Nat.mul_one] at hcs
    have hcells : ∀ j, j < cap → (w.cell? ⟨g, 0 + j, none⟩).isSome = true := fun j hj => by rw [hg.cell, Nat.zero_add, Array.getElem?_eq_getElem (by omega)]; rfl
    by_cases hroom : xs.length + 1 ≤ cap
    · by_cases he : i = xs.length
      · subst he
        refine (Any2.slices_Insert_int_end_room Try.laysInsert g 0 xs.length cap vb 0 1 1 [.int .i64 x] w (by decide) hroom hc63 rfl (fun j hj => by rw [show 0 + xs.length + j = 0 + (xs.length + j) by omega]; exact hcells _ (by omega)) (fun j _ => hg.frozen _) hvs h1v).mono ?_
        rintro e w' ⟨rfl, rfl⟩
        obtain ⟨cs', hb', hs'⟩ := hg.puts (0 + xs.length) (vs := [.int .i64 x])
        refine ⟨_, rfl, ?_, Kept.puts (.inl hS) (Kept.refl _ _) _, .inl rfl⟩
        have := own_of_cells (l := xs.take xs.length ++ x :: xs.drop xs.length) (cap := cap) hb' (hs'.trans hcs) (by rw [hlen]; exact hroom) hcm (fun j y hj => ?_)
        · rw [hlen] at this; exact this
        · rcases put_get hi hj with ⟨h1, h2⟩ | ⟨rfl, rfl⟩ | ⟨h1, h2⟩
          · rw [World.cell?_setCells_out _ _ _ _ _ (fun _ _ => by show j < 0 + xs.length ∨ _; omega)]
            exact hcell j y h2
          · have := World.cell?_setCells_in g [.int .i64 y] (0 + xs.length) w (fun j hj => by rw [show 0 + xs.length + j = 0 + (xs.length + j) by omega]; exact hcells _ (by simp at hj; omega)) 0 (by simp)
            simpa using this
          · have := (List.getElem?_eq_some_iff.1 h2).1
            omega
      · have hilt : i < xs.length := by omega
        have hsa : w.shape? vb = some (3, 1) := by unfold Bk at hb; simp [World.shape?, hb]
        have hsb : w.shape? g = some (3, cap) := by have := hg; unfold Bk at this; simp [World.shape?, this, hcs]
        refine (Any2.slices_Insert_int_shift Try.laysInsert g 0 xs.length cap i vb 0 1 1 (ints xs) [.int .i64 x] w hilt (by decide) hroom hc63 (fun e => hne (by rw [e]; rfl)) hcl rfl hcc (fun j hj => hcells j (by omega)) (fun j _ => hg.frozen _) hvs (ints_one xs) h1v _ _ _ _ hsa hsb (by omega) (hb.frozen _) (hb.frozen _)).mono ?_
        rintro e w' ⟨rfl, rfl⟩
        have hgd : Bk w.drew g 3 cur := hg
        obtain ⟨cs1, hb1, hs1⟩ := hgd.puts (0 + (i + 1)) (vs := (ints xs).drop i)
        obtain ⟨cs2, hb2, hs2⟩ := hb1.puts (0 + i) (vs := [.int .i64 x])
        refine ⟨_, rfl, ?_, Kept.puts (.inl hS) (Kept.puts (.inl hS) (Kept.refl _ _).drew _) _, .inl rfl⟩
        have := own_of_cells (l := xs.take i ++ x :: xs.drop i) (cap := cap) hb2 (hs2.trans (hs1.trans hcs)) (by rw [hlen]; exact hroom) hcm (fun j y hj => ?_)
        · rw [hlen] at this; exact this
        · have hin1 : ∀ q, q < ((ints xs).drop i).length → (w.drew.cell? ⟨g, 0 + (i + 1) + q, none⟩).isSome = true := fun q hq => by
            rw [List.length_drop, hcl] at hq
            rw [show 0 + (i + 1) + q = 0 + (i + 1 + q) by omega]
            exact hcells _ (by omega)
          rcases put_get hi hj with ⟨h1, h2⟩ | ⟨rfl, rfl⟩ | ⟨h1, h2⟩
          · rw [World.cell?_setCells_out _ _ _ _ _ (fun _ _ => by show j < 0 + i ∨ _; omega), World.cell?_setCells_out _ _ _ _ _ (fun _ _ => by show j < 0 + (i + 1) ∨ _; omega)]
            exact hcell j y h2
          · have := World.cell?_setCells_in g [.int .i64 y] (0 + j) (w.drew.setCells g (0 + (j + 1)) ((ints xs).drop j)) (fun q hq => by
              rw [hb1.cell, Array.getElem?_eq_getElem (by rw [hs1, hcs]; simp at hq; omega)]; rfl) 0 (by simp)
            simpa using this
          · have hjl := (List.getElem?_eq_some_iff.1 h2).1
            rw [World.cell?_setCells_out _ _ _ _ _ (fun _ _ => by show _ ∨ 0 + i + 1 ≤ j; omega)]
            have hq : j - (i + 1) < ((ints xs).drop i).length := by rw [List.length_drop, hcl]; omega
            have := World.cell?_setCells_in g ((ints xs).drop i) (0 + (i + 1)) w.drew hin1 (j - (i + 1)) hq
            rw [show 0 + (i + 1) + (j - (i + 1)) = j by omega] at this
            rw [this, ← List.getElem?_eq_getElem hq, List.getElem?_drop, show i + (j - (i + 1)) = j - 1 by omega]
            exact ints_at h2
    · by_cases he : i = xs.length
      · subst he
        refine (Any2.slices_Insert_int_end_grow Try.laysInsert (some ⟨g, 0, none⟩) xs.length cap vb 0 1 1 (ints xs) [.int .i64 x] w (by decide) hn (by omega) (by omega) hcl rfl (fun h => by cases h) (fun a ea j u hj => by
          obtain rfl := Option.some.inj ea
          rw [Addr.add_lit]; exact hcc j u hj) hvs h1v).mono ?_
        rintro e w' ⟨rfl, rfl⟩
        refine ⟨_, rfl, ?_, kept_new _ _, .inr ⟨_, rfl, Nat.le_refl _⟩⟩
        have := own_new (w := w.drew) (cap := grownCap w (xs.length + 1) cap 3) (cur := (ints xs ++ [Value.int .i64 x]).toArray ++ Builtin.zeroCells (Value.int .i64 0).cells (grownCap w (xs.length + 1) cap 3 - (xs.length + 1))) (l := xs ++ [x]) ?_ ?_ ?_ ?_
        · rw [hend rfl]
          rw [show (xs ++ [x]).length = xs.length + 1 by simp] at this
          exact this
        · have := grownCap_ge w (xs.length + 1) cap 3
          simp [size_zeroCells, Value.cells, hcl]; omega
        · simpa using grownCap_ge w (xs.length + 1) cap 3
        · exact grownCap_le_maxLen w _ _ _ (by unfold maxLen; omega)
        · intro j y hj
          exact cells_append (by have := ints_at hj; rw [ints_append] at this; exact this)
      · have hilt : i < xs.length := by omega
        have hge := grownCap_ge w (xs.length + 1) cap 3
        refine (Any2.slices_Insert_int_grow Try.laysInsert g 0 xs.length cap i vb 0 1 1 (ints xs) [.int .i64 x] w hilt (by decide) hn (by omega) (by omega) hcl rfl hcc hvs (ints_one xs) h1v).mono ?_
        rintro e w' ⟨rfl, rfl⟩
        obtain ⟨cur0, hcur0⟩ : ∃ c0, c0 = (((ints xs).take i).toArray ++ Builtin.zeroCells (Value.int .i64 0).cells (xs.length + 1 - i) ++ Builtin.zeroCells (Value.int .i64 0).cells (grownCap w (xs.length + 1) cap 3 - (xs.length + 1))) := ⟨_, rfl⟩
        have hsz0 : cur0.size = grownCap w (xs.length + 1) cap 3 := by
          rw [hcur0]
          simp [size_zeroCells, Value.cells, hcl]; omega
        have hb0 : Bk (w.alloc (.cells cur0 3)).drew w.heap.size 3 cur0 := Bk.new w 3 cur0
        have hlo : ∀ j y, j < i → xs[j]? = some y → cur0[j]? = some (.int .i64 y) := fun j y h1 h2 => by
          rw [hcur0, Array.append_assoc]
          refine cells_append ?_
          rw [List.getElem?_take_of_lt h1]
          exact ints_at h2
        rw [show Try.laysInsert_ren.t 3 = 3 from rfl, ← hcur0]
        obtain ⟨cs1, hb1, hs1⟩ := hb0.puts i (vs := [.int .i64 x])
        have hb1d : Bk ((w.alloc (.cells cur0 3)).drew.setCells w.heap.size i [.int .i64 x]).drew w.heap.size 3 cs1 := hb1
        obtain ⟨cs2, hb2, hs2⟩ := hb1d.puts (i + 1) (vs := (ints xs).drop i)
        have hk : ∀ S : Nat → Prop, Kept S w (((w.alloc (.cells cur0 3)).drew.setCells w.heap.size i [.int .i64 x]).drew.setCells w.heap.size (i + 1) ((ints xs).drop i)) := fun S =>
          Kept.puts (.inr (Nat.le_refl _)) (Kept.puts (.inr (Nat.le_refl _)) ((Kept.refl S w).alloc _).drew _).drew _
        refine ⟨_, rfl, ?_, hk _, .inr ⟨_, rfl, Nat.le_refl _⟩⟩
        have := own_of_cells (l := xs.take i ++ x :: xs.drop i) hb2 (hs2.trans (hs1.trans hsz0)) (by rw [hlen]; exact hge) (grownCap_le_maxLen w _ _ _ (by unfold maxLen; omega)) (fun j y hj => ?_)
        · rw [hlen] at this; exact this
        · have hc1 : ∀ q, q < cs1.size → (((w.alloc (.cells cur0 3)).drew.setCells w.heap.size i [.int .i64 x]).drew.cell? ⟨w.heap.size, q, none⟩).isSome = true := fun q hq => by rw [hb1d.cell, Array.getElem?_eq_getElem hq]; rfl
          rcases put_get hi hj with ⟨h1, h2⟩ | ⟨rfl, rfl⟩ | ⟨h1, h2⟩
          · rw [World.cell?_setCells_out _ _ _ _ _ (fun _ _ => by show j < i + 1 ∨ _; omega)]
            show ((w.alloc (.cells cur0 3)).drew.setCells w.heap.size i [.int .i64 x]).cell? _ = _
            rw [World.cell?_setCells_out _ _ _ _ _ (fun _ _ => by show j < i ∨ _; omega), hb0.cell]
            exact hlo j y h1 h2
          · rw [World.cell?_setCells_out _ _ _ _ _ (fun _ _ => by show j < j + 1 ∨ _; omega)]
            have := World.cell?_setCells_in w.heap.size [.int .i64 y] j (w.alloc (.cells cur0 3)).drew (fun q hq => by
              rw [hb0.cell, Array.getElem?_eq_getElem (by rw [hsz0]; simp at hq; omega)]; rfl) 0 (by simp)
            exact this
          · have hjl := (List.getElem?_eq_some_iff.1 h2).1
            have hq : j - (i + 1) < ((ints xs).drop i).length := by rw [List.length_drop, hcl]; omega
            have := World.cell?_setCells_in w.heap.size ((ints xs).drop i) (i + 1) _ (fun q hq => hc1 _ (by rw [List.length_drop, hcl] at hq; rw [hs1, hsz0]; omega)) (j - (i + 1)) hq
            rw [show i + 1 + (j - (i + 1)) = j by omega] at this
            rw [this, ← List.getElem?_eq_getElem hq, List.getElem?_drop, show i + (j - (i + 1)) = j - 1 by omega]
            exact ints_at h2

/-! ### Delete -/
theorem putRow_bk {w : World} {g q : Nat} {cur : Array Value} (h : Bk w g 3 cur) (d : Array Int) : ∃ cs, Bk (putRow (Value.int .i64) (Sort.ahead w q) g 0 d) g 3 cs ∧ cs.size = cur.size := by
  unfold Bk at h
  refine ⟨putCells (Value.int .i64) 0 d cur, ?_, by unfold putCells; simp⟩
  unfold Bk putRow mapBlock
  show (w.heap.modify g _)[g]? = _
  rw [Array.getElem?_modify, if_pos rfl, h]
  rfl
theorem putRow_kept {S : Nat → Prop} {w : World} {g q : Nat} (d : Array Int) (hg : S g) : Kept S w (putRow (Value.int .i64) (Sort.ahead w q) g 0 d) :=
  ⟨rfl, rfl, rfl, by show w.heap.size ≤ (w.heap.modify g _).size; simp, fun k _ hs => by
    show (w.heap.modify g _)[k]? = _
    rw [Array.getElem?_modify, if_neg (by rintro rfl; exact hs hg)]⟩

theorem delete_ok (v : Value) (xs : List Int) (i : Nat) (hi : i < xs.length) (w : World) (hrow : w.ownsRow 0 3 1 v xs.length (ints xs)) :
    Calls Try.prog 41 #[v, .int .i64 i, .int .i64 ((i : Int) + 1)] w (InsPost v (xs.length - 1) (xs.take i ++ xs.drop (i + 1)) w) := by
  rcases hrow.2 with ⟨rfl, h0⟩ | ⟨g, cap, cur, rfl, _, hg, hn, hcm, hcs, htk⟩
  · omega
  · have hg : Bk w g 3 cur := hg
    rw [Nat.mul_one] at hcs
    obtain ⟨_, _, _, _, _, _, hcell⟩ := own_cell hrow
    have hH : Holds (Value.int .i64) w g 0 xs.toArray := fun j hj => by
      have hj' : j < xs.length := by simpa using hj
      rw [Nat.zero_add]
      exact ⟨by rw [hcell j _ (List.getElem?_eq_getElem hj')]; simp [hj'], hg.frozen _⟩
    have hlen : (xs.take i ++ xs.drop (i + 1)).length = xs.length - 1 := by simp; omega
    have h := AnyG.slices_Delete_int Try.laysDelete g 0 cap i (i + 1) xs w hH hn (by unfold maxLen at hcm; omega) (by omega) (by omega)
    rw [show ((i + 1 : Nat) : Int) = (i : Int) + 1 by omega] at h
    refine h.mono ?_
    rintro e w' ⟨rfl, q, rfl⟩
    obtain ⟨cs, hb, hs⟩ := putRow_bk (q := q) hg (xs.take i ++ xs.drop (i + 1) ++ List.replicate (i + 1 - i) 0).toArray
    refine ⟨_, rfl, ?_, putRow_kept _ rfl, .inl rfl⟩
    have h2 := holds_putRow (Value.int .i64) (Sort.ahead w q) g 0 xs.toArray (xs.take i ++ xs.drop (i + 1) ++ List.replicate (i + 1 - i) 0).toArray (holds_ahead _ w q g 0 _ hH) (by simp; omega)
    have := own_of_cells (l := xs.take i ++ xs.drop (i + 1)) hb (hs.trans hcs) (by rw [hlen]; omega) hcm (fun j y hj => ?_)
    · rw [hlen] at this
      rw [show xs.length - (i + 1 - i) = xs.length - 1 by omega]
      exact this
    · have hjl := (List.getElem?_eq_some_iff.1 hj).1
      have := (h2 j (by simp at hjl ⊢; omega)).1
      rw [Nat.zero_add] at this
      rw [this]
      have e : (xs.take i ++ xs.drop (i + 1) ++ List.replicate (i + 1 - i) (0 : Int))[j]? = some y := by rw [List.getElem?_append_left hjl]; exact hj
      congr 2
      rw [getElem!_def]
      simp only [List.getElem?_toArray, e]
end Go.Proofs.Ytlnjgbdekcgmpaa
