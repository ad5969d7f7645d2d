/- The contract of slots' Take. -/
import Derived.Test.YtfnhkapbfgofkaaSf
import Derived.BigRegionIn
namespace Go.Proofs.Ytfnhkapbfgofkaa
open Go.RowKit Go.Shelf
attribute [local go_sem] Oper.semAt_some

/-- What Take answers: a slot, its generation, an error. -/
def Tb.tI (T : Tb) : Nat := match T.free with | [] => 0 | i :: _ => i
def Tb.tG (T : Tb) : Nat := match T.free with | [] => 0 | i :: _ => T.g i
def Tb.tE (T : Tb) : Int := match T.free with | [] => 4 | _ :: _ => 0
def TakeV (b : Nat) (T : Tb) (w : World) (e : Ending) (w' : World) : Prop := e = .returned (.tuple #[.agg #[.int .i64 T.tI, .int .u32 T.tG], .int .i64 T.tE]) ∧ TabW w' b T.take ∧ Kept (· = b) w w'

theorem Kept.thenB {S : Nat → Prop} {a b c : World} (h : Kept S a b) (k : Below a.heap.size b c) : Kept S a c :=
  ⟨k.os.trans h.os, k.tape.trans h.tape, k.output.trans h.output, Nat.le_trans h.size k.size, fun i hi hs => (k.block i hi).trans (h.block i hi hs)⟩
/-- What the three boxes hold that Take lays. -/
theorem take_boxes (w : World) (v : Option Addr) {w1 : World} (h : ((w.alloc (.cells #[.pointer v] 77)).alloc (.cells #[.int .i64 0, .int .u32 0] 34)).alloc (.cells #[.int .i64 0] 26) = w1) :
    Bk w1 w.heap.size 77 #[.pointer v] ∧ Bk w1 (w.heap.size + 1) 34 #[.int .i64 0, .int .u32 0] ∧ Bk w1 (w.heap.size + 2) 26 #[.int .i64 0] ∧ w1.heap.size = w.heap.size + 3 ∧ Below w.heap.size w w1 := by
  subst h
  have e1 : (w.alloc (.cells #[.pointer v] 77)).heap.size = w.heap.size + 1 := by simp
  have e2 : ((w.alloc (.cells #[.pointer v] 77)).alloc (.cells #[.int .i64 0, .int .u32 0] 34)).heap.size = w.heap.size + 2 := by simp
  have b1 := Bk.new w 77 #[.pointer v]
  have b2 := Bk.new (w.alloc (.cells #[.pointer v] 77)) 34 #[.int .i64 0, .int .u32 0]
  have b3 := Bk.new ((w.alloc (.cells #[.pointer v] 77)).alloc (.cells #[.int .i64 0, .int .u32 0] 34)) 26 #[.int .i64 0]
  rw [e1] at b2
  rw [e2] at b3
  refine ⟨(b1.same (Below.heap_alloc _ _ _ (by omega))).same (Below.heap_alloc _ _ _ (by omega)), b2.same (Below.heap_alloc _ _ _ (by omega)), b3, by simp, (((Below.refl _ w).alloc (Nat.le_refl _) _).alloc (by omega) _).alloc (by omega) _⟩
set_option maxHeartbeats 1000000 in
theorem take_inv (v : Option Addr) (w : World) (h : Inv w v) : Calls Try.prog 37 #[.pointer v] w fun e w' => e = .returned (.tuple #[.agg #[.int .i64 0, .int .u32 0], .int .i64 1]) ∧ Below w.heap.size w w' := by
  obtain ⟨hb1, hb2, hb3, hsz, hB⟩ := take_boxes w v rfl
  have HI := Lib.hid (h.below hB)
  clear h hb1 hb2 hb3 hsz hB
  go_enter Try.func37, Try.ntmps37
  go_wp2_with fail
  refine (valid_no _ _ HI.out).mono ?_
  rintro e w' ⟨rfl, rfl⟩
  go_wp2
  refine bodyPost_ret (v := .tuple #[.agg #[.int .i64 0, .int .u32 0], .int .i64 1]) (by simp [results, Try.results37, go_sem]) rfl ⟨rfl, ?_⟩
  exact ((((Below.refl _ w).alloc (Nat.le_refl _) _).alloc (by simp) _).alloc (by simp; omega) _)
/-- The slots in a state, as a type of their own: what the loop's body may suppose of its variable. -/
def Sub (T : Tb) (v : Nat) : Type := { x : Nat // x ∈ sel T.s v T.n }
def encS (T : Tb) (v : Nat) : Sub T v → Array Value := fun x => #[.agg #[.int .i64 ((x.1 : Nat) : Int), .int .u32 (T.g x.1)]]
theorem in_stops2 (n : Nat) (hn : 1 ≤ n) (Bs Bw n₀ b : Nat) (T : Tb) (v : Nat) (X : Nat → Prop) (w : World) (hA : InAt w X n₀ Bs Bw b T v) :
    SeqStopsK Fence.wide n Try.prog 75 #[.pointer (some ⟨Bs, 0, none⟩), .pointer (some ⟨Bw, 0, none⟩)] (encS T v) (KpS X n₀) (fun ys => ys.map (·.1) = sel T.s v T.n) (fun pre => pre.map (·.1) <+: sel T.s v T.n) (sel T.s v T.n).length w := fun l J Jx W hW hJ _ hY h0 => by
  refine (in1_in n hn l Bs Bw n₀ b W.heap.size T v X (fun pre W => ∃ p : List (Sub T v), p.map (·.1) = pre ∧ J p W) (fun pre W => ∃ p : List (Sub T v), p.map (·.1) = pre ∧ Jx p W) (fun s A B row hs hg hr => ?_) (fun pre x W1 hx hJp hlt => ?_) W (hA.kp (KpS.of_below hW hA.sz)) ⟨[], rfl, h0⟩).mono fun e W' h => ?_
  · obtain ⟨p, e, hp⟩ := hs
    exact ⟨p, e, hJ _ _ _ _ hp hg hr⟩
  · obtain ⟨p, e, hp⟩ := hJp
    subst e
    obtain ⟨fn, tmps, assign, body, hy, hR⟩ := hY p ⟨x, hx⟩ W1 hp (by simpa using hlt)
    refine ⟨fn, tmps, assign, body, hy, hR.mono ?_⟩
    rintro e W' (⟨h1, h2, h3⟩ | ⟨h1, h2⟩)
    · exact .inl ⟨h1, ⟨p ++ [⟨x, hx⟩], by rw [List.map_append]; rfl, h2⟩, h3⟩
    · exact .inr ⟨h1, p ++ [⟨x, hx⟩], by rw [List.map_append]; rfl, h2⟩
  · refine ⟨h.1, ?_⟩
    rcases h.2 with ⟨ys, e, p, e2, hp⟩ | ⟨pre, e, p, e2, hp⟩
    · exact .inl ⟨p, e2.trans e, hp⟩
    · exact .inr ⟨p, by show List.map _ p <+: _; rw [e2]; exact e, hp⟩
/-- While Take's loop has taken nothing; when it has. -/
def TkI (w : World) (b : Nat) (T : Tb) (pre : List (Sub T 0)) (W : World) : Prop := pre = [] ∧ (Bk W w.heap.size 77 #[.pointer (some ⟨b, 0, none⟩)] ∧ Bk W (w.heap.size + 1) 34 #[.int .i64 0, .int .u32 0] ∧ Bk W (w.heap.size + 2) 26 #[.int .i64 0] ∧ w.heap.size + 5 ≤ W.heap.size) ∧ Below w.heap.size w W
def TkX (w : World) (b : Nat) (T : Tb) (c : Code) (pre : List (Sub T 0)) (W : World) : Prop := c = .ret ∧ ∃ x : Sub T 0, pre = [x] ∧ (TabW W b (T.took x.1) ∧ Bk W (w.heap.size + 1) 34 #[.int .i64 ((x.1 : Nat) : Int), .int .u32 (T.g x.1)] ∧ Bk W (w.heap.size + 2) 26 #[.int .i64 0]) ∧ Kept (· = b) w W
theorem tkx_end {w W : World} {b i y B : Nat} {T : Tb} (hBW : Below w.heap.size w W) (hT : TabW W b T) (hbt : b < w.heap.size) (_hB : w.heap.size ≤ B)
    (k2 : Bk W (w.heap.size + 1) 34 #[.int .i64 0, .int .u32 0]) (k3 : Bk W (w.heap.size + 2) 26 #[.int .i64 0]) (hi : i ∈ sel T.s 0 T.n) (hy : T.g i = y) (W' : World)
    (e1 : W'.heap = ((((W.setCell ⟨b, 1 + i * 2, none⟩ (.int .i64 1)).setCell ⟨w.heap.size + 1, 0, none⟩ (.int .i64 i)).setCell ⟨w.heap.size + 1, 1, none⟩ (.int .u32 y)).setCell ⟨w.heap.size + 2, 0, none⟩ (.int .i64 0)).heap)
    (e2 : W'.os = W.os) (e3 : W'.tape = W.tape) (e4 : W'.output = W.output) : KeepsFrom B W W' ∧ TkX w b T .ret ([] ++ [⟨i, hi⟩]) W' := by
  obtain ⟨Z, hZ⟩ : ∃ Z, (((W.setCell ⟨b, 1 + i * 2, none⟩ (.int .i64 1)).setCell ⟨w.heap.size + 1, 0, none⟩ (.int .i64 i)).setCell ⟨w.heap.size + 1, 1, none⟩ (.int .u32 y)).setCell ⟨w.heap.size + 2, 0, none⟩ (.int .i64 0) = Z := ⟨_, rfl⟩
  rw [hZ] at e1
  have hK : KeepsOthers W Z := by rw [← hZ]; exact (((KeepsOthers.setCell _ _ _).trans (KeepsOthers.setCell _ _ _)).trans (KeepsOthers.setCell _ _ _)).trans (KeepsOthers.setCell _ _ _)
  have hn := (mem_sel.1 hi).1
  have h1 := (hT.put_s i 1 (hT.ok.took i)).bk
  have h2 := ((k2.same (w' := W.setCell ⟨b, 1 + i * 2, none⟩ (.int .i64 1)) (Below.heap_setCell _ _ _ _ (by show w.heap.size + 1 ≠ b; omega))).put 0 (.int .i64 i)).put 1 (.int .u32 y)
  have hb : Bk Z b 112 (tcells (T.took i)) := by
    rw [← hZ]
    exact ((h1.same (Below.heap_setCell _ _ _ _ (by show b ≠ w.heap.size + 1; omega))).same (Below.heap_setCell _ _ _ _ (by show b ≠ w.heap.size + 1; omega))).same (Below.heap_setCell _ _ _ _ (by show b ≠ w.heap.size + 2; omega))
  have hr : Bk Z (w.heap.size + 1) 34 #[.int .i64 i, .int .u32 y] := by
    rw [← hZ]
    exact h2.same (Below.heap_setCell _ _ _ _ (by show w.heap.size + 1 ≠ w.heap.size + 2; omega))
  have he : Bk Z (w.heap.size + 2) 26 #[.int .i64 0] := by
    rw [← hZ]
    exact (((k3.same (Below.heap_setCell _ _ _ _ (by show w.heap.size + 2 ≠ b; omega))).same (Below.heap_setCell _ _ _ _ (by show w.heap.size + 2 ≠ w.heap.size + 1; omega))).same (Below.heap_setCell _ _ _ _ (by show w.heap.size + 2 ≠ w.heap.size + 1; omega))).put 0 _
  have hkk : ∀ k, k < w.heap.size → ¬ k = b → Z.heap[k]? = w.heap[k]? := by
    intro k hk hkb
    rw [← hZ, Below.heap_setCell _ _ _ _ (by show k ≠ w.heap.size + 2; omega), Below.heap_setCell _ _ _ _ (by show k ≠ w.heap.size + 1; omega), Below.heap_setCell _ _ _ _ (by show k ≠ w.heap.size + 1; omega), Below.heap_setCell _ _ _ _ (by show k ≠ b; omega)]
    exact hBW.block k hk
  have hsz : w.heap.size ≤ Z.heap.size := Nat.le_trans hBW.size hK.size
  refine ⟨⟨by rw [e1]; exact hK.size, fun k o _ h ho => by rw [e1]; exact hK.same k o h ho⟩, rfl, ⟨i, hi⟩, rfl, ⟨⟨hT.ok.took i, by unfold Bk; rw [e1]; exact hb⟩, by unfold Bk; rw [e1, hy]; exact hr, by unfold Bk; rw [e1]; exact he⟩, ⟨e2.trans hBW.os, e3.trans hBW.tape, e4.trans hBW.output, by rw [e1]; exact hsz, fun k hk hkb => by rw [e1]; exact hkk k hk hkb⟩⟩
set_option maxRecDepth 100000 in
set_option maxHeartbeats 2000000 in
theorem take_ok (b : Nat) (T : Tb) (w : World) (h : TabW w b T) : Calls Try.prog 37 #[.pointer (some ⟨b, 0, none⟩)] w (TakeV b T w) := by
  have hbt := h.bt
  have hn := h.ok.hi
  have H := Lib.hid h
  clear h
  obtain ⟨w1, hw1⟩ : ∃ w1, ((w.alloc (.cells #[.pointer (some ⟨b, 0, none⟩)] 77)).alloc (.cells #[.int .i64 0, .int .u32 0] 34)).alloc (.cells #[.int .i64 0] 26) = w1 := ⟨_, rfl⟩
  obtain ⟨hb1, hb2, hb3, hsz, hB⟩ := take_boxes w _ hw1
  have HW1 := Lib.hid hw1
  have HT1 := Lib.hid (H.out.below hB)
  have hc1 := hb1.cell 0
  simp only [List.getElem?_toArray, List.getElem?_cons_zero] at hc1
  clear hw1
  refine (callsIn_wide (n := 3)).1 ?_
  refine callsIn_of_wp_marks Try.func37 rfl trivial ?_ rfl
  simp only [Try.ntmps37, List.size_toArray, List.length_cons, List.length_nil, Nat.reduceAdd, Nat.reduceSub, Array.replicate_succ, Array.replicate_zero, List.push_toArray, List.append_toArray, List.nil_append, List.cons_append]
  have HT0 : Hid (TabW (((w.alloc (.cells #[.pointer (some ⟨b, 0, none⟩)] 77)).alloc (.cells #[.int .i64 0, .int .u32 0] 34)).alloc (.cells #[.int .i64 0] 26)) b T) := by rw [HW1.out]; exact HT1.out
  gi_wp2_with (first
    | (refine ⟨trivial, ?_⟩; gi_at_call 65; refine (callsIn_wide.2 (valid_yes _ _ _ HT0.out)).mono ?_; rintro e w' ⟨rfl, rfl⟩)
    | (refine ⟨trivial, ?_⟩; gi_at_call 66; refine (callsIn_wide.2 (in_ok _ _ _)).mono ?_; rintro e w' ⟨rfl, rfl⟩))
  rw [HW1.out]
  obtain ⟨w2, hw2⟩ : ∃ w2, (w1.alloc (.cells #[.pointer (some ⟨b, 0, none⟩)] 77)).alloc (.cells #[.int .i64 0] 107) = w2 := ⟨_, rfl⟩
  obtain ⟨hx1, hx2, hx3, hx4⟩ := boxes w1 _ _ hw2
  rw [hsz] at hx1 hx2 hx3
  have hsz2 : w2.heap.size = w.heap.size + 5 := hx3
  have hB2 : Below w.heap.size w w2 := bel2 hB hx4
  rw [hw2]
  have hI0 : Bk w2 w.heap.size 77 #[.pointer (some ⟨b, 0, none⟩)] ∧ Bk w2 (w.heap.size + 1) 34 #[.int .i64 0, .int .u32 0] ∧ Bk w2 (w.heap.size + 2) 26 #[.int .i64 0] := ⟨hb1.below hx4, hb2.below hx4, hb3.below hx4⟩
  clear hb1 hb2 hb3 hc1
  refine wpIn_rangeFunc_ownH rfl (by decide) (gf := 75) (lb := #[.pointer (some ⟨w.heap.size + 3, 0, none⟩), .pointer (some ⟨w.heap.size + 4, 0, none⟩)]) rfl trivial (enters_of Try.func75 (by kernel_rfl) rfl)
    (in_stops2 2 (by decide) (w.heap.size + 3) (w.heap.size + 4) (w.heap.size + 5) b T 0 (fun _ => False) w2 ⟨H.out.below hB2, hx1, hx2, by omega, by omega, by omega, by omega, id, id, id⟩) KpS.trans (kpS_b (by omega)) (Below.refl _ _) (fun _ => rfl)
    (TkI w b T) (TkX w b T)
    (fun s A B row hs hg hr => by
      obtain ⟨h1, ⟨h2, h3, h4, h6⟩, h5⟩ := hs
      have hr2 := fun r e => (hr r e).2
      exact ⟨h1, ⟨h2.grown hg hr2, h3.grown hg hr2, h4.grown hg hr2, Nat.le_trans h6 hg.size⟩, ownFrom_below (β := Unit) (Nat.le_refl _) (by omega) () A B row h5 hg hr⟩)
    (fun c s A B row hs hg hr => by
      obtain ⟨h0, x, h1, ⟨h2, h3, h4⟩, h5⟩ := hs
      have hr2 := fun r e => (hr r e).2
      exact ⟨h0, x, h1, ⟨⟨h2.ok, h2.bk.grown hg hr2⟩, h3.grown hg hr2, h4.grown hg hr2⟩, h5.thenB ((Below.refl _ A).grown hg h5.size (fun k e => by have := (hr k e).1; omega))⟩)
    ⟨rfl, ⟨hI0.1, hI0.2.1, hI0.2.2, by omega⟩, hB2⟩
    (fun x a' W => ∃ B4, w.heap.size + 5 ≤ B4 ∧ Bk W B4 34 #[.int .i64 ((x.1 : Nat) : Int), .int .u32 (T.g x.1)] ∧ a' = { tmps := #[.pointer (some ⟨b, 0, none⟩), .pointer (some ⟨w.heap.size, 0, none⟩), .pointer (some ⟨w.heap.size + 1, 0, none⟩), .pointer (some ⟨w.heap.size + 2, 0, none⟩), .pointer (some ⟨B4, 0, none⟩), .pointer (some ⟨b, 0, none⟩), .bool true, .bool false, undef, .pointer (some ⟨b, 0, none⟩), .func (.func 75) #[] #[.pointer (some ⟨w.heap.size + 3, 0, none⟩), .pointer (some ⟨w.heap.size + 4, 0, none⟩)], .agg #[.int .i64 ((x.1 : Nat) : Int), .int .u32 (T.g x.1)], undef, undef, undef, undef, undef, undef, undef, undef, undef], defers := [] })
    (fun x a' => fun s W W' row hs hg hr => by
      obtain ⟨B4, h1, h2, h3⟩ := hs
      exact ⟨B4, h1, h2.grown hg (fun r e => (hr r e).2), h3⟩) ?assign ?body ?done ?stop
  case assign =>
    rintro l pre x W K ⟨rfl, ⟨k1, k2, k3, k4⟩, hBW⟩ hK
    have HK := Lib.hid hK
    clear hK
    unfold encS
    gi_wp2
    have hal : Below W.heap.size W (W.alloc (.cells #[.int .i64 ((x.1 : Nat) : Int), .int .u32 (T.g x.1)] 34)) := (Below.refl _ W).alloc (Nat.le_refl _) _
    exact HK.out _ _ ((KeepsOthers.alloc W _).from _) (KpS.of_below hal k4) (show TkI w b T [] _ from ⟨rfl, ⟨k1.below hal, k2.below hal, k3.below hal, Nat.le_trans k4 hal.size⟩, bel2 hBW hal⟩) ⟨W.heap.size, k4, Bk.new W _ _, rfl⟩
  case body =>
    rintro l pre x a' W _ _ ⟨rfl, ⟨k1, k2, k3, k4⟩, hBW⟩ ⟨B4, hB4, hbk, rfl⟩ hlt2
    obtain ⟨i, hi⟩ := x
    simp only [] at hbk ⊢
    have hx := mem_sel.1 hi
    have HX := Lib.hid hx
    have hin : i < T.n := hx.1
    have HT2 := Lib.hid (H.out.below hBW)
    have hcs := HT2.out.cs (i := i) (by omega)
    have hfs := HT2.out.fz (1 + i * 2)
    have hc1 := k1.cell 0
    have hr0 := k2.cell 0
    have hr1 := k2.cell 1
    have he0 := k3.cell 0
    have hf0 := k2.frozen 0
    have hf1 := k2.frozen 1
    have hfe := k3.frozen 0
    have hb0 := hbk.cell 0
    have hb1 := hbk.cell 1
    simp only [List.getElem?_toArray, List.getElem?_cons_zero, List.getElem?_cons_succ] at hb0 hb1 hc1 hr0 hr1 he0
    have HK := Lib.hid (And.intro k2 k3)
    have HB := Lib.hid hBW
    obtain ⟨y, hy⟩ : ∃ y, T.g i = y := ⟨_, rfl⟩
    rw [hy] at hb1 ⊢
    have HG := Lib.hid hy
    clear hy
    clear hx k1 k2 k3 hbk hBW
    gi_wp2
    gi_region
    all_goals
      gi_wp2
      exact tkx_end HB.out HT2.out hbt (by omega) HK.out.1 HK.out.2 hi HG.out _ rfl rfl rfl rfl
  case done =>
    rintro D ys W hD hys ⟨rfl, ⟨k1, k2, k3, k4⟩, hBW⟩ hK
    have hfree : T.free = [] := hys.symm
    have HF := Lib.hid hfree
    have hr0 := k2.cell 0
    have hr1 := k2.cell 1
    have he0 := k3.cell 0
    have hf0 := k2.frozen 0
    have hf1 := k2.frozen 1
    have hfe := k3.frozen 0
    simp only [List.getElem?_toArray, List.getElem?_cons_zero, List.getElem?_cons_succ] at hr0 hr1 he0
    clear hys hfree
    gi_wp2
    obtain ⟨Z, hZ⟩ : ∃ Z, ((W.setCell ⟨w.heap.size + 1, 0, none⟩ (.int .i64 0)).setCell ⟨w.heap.size + 1, 1, none⟩ (.int .u32 0)).setCell ⟨w.heap.size + 2, 0, none⟩ (.int .i64 4) = Z := ⟨_, rfl⟩
    have hK' : Z.heap[D]? = some (.deferred (some [])) := by rw [← hZ]; exact (((KeepsOthers.setCell _ _ _).trans (KeepsOthers.setCell _ _ _)).trans (KeepsOthers.setCell _ _ _)).same D _ hK rfl
    have hr : Bk Z (w.heap.size + 1) 34 #[.int .i64 0, .int .u32 0] := by
      rw [← hZ]; exact ((k2.put 0 (.int .i64 0)).put 1 (.int .u32 0)).same (Below.heap_setCell _ _ _ _ (by show w.heap.size + 1 ≠ w.heap.size + 2; omega))
    have he : Bk Z (w.heap.size + 2) 26 #[.int .i64 4] := by
      rw [← hZ]; exact ((k3.same (Below.heap_setCell _ _ _ _ (by show w.heap.size + 2 ≠ w.heap.size + 1; omega))).same (Below.heap_setCell _ _ _ _ (by show w.heap.size + 2 ≠ w.heap.size + 1; omega))).put 0 (.int .i64 4)
    have hBZ : Below w.heap.size w Z := by rw [← hZ]; exact ((hBW.setCell (p := ⟨w.heap.size + 1, 0, none⟩) (by simp) _).setCell (p := ⟨w.heap.size + 1, 1, none⟩) (by simp) _).setCell (p := ⟨w.heap.size + 2, 0, none⟩) (by simp) _
    rw [show w.heap.size + 1 + 1 = w.heap.size + 2 from rfl, hZ]
    have hg := grownBy_putObj' Z D (.deferred none)
    have hr2 := hr.grown hg (fun r e => by cases e; exact ⟨_, hK', rfl⟩)
    have he2 := he.grown hg (fun r e => by cases e; exact ⟨_, hK', rfl⟩)
    have c0 := hr2.cell 0
    have c1 := hr2.cell 1
    have c2 := he2.cell 0
    simp only [List.getElem?_toArray, List.getElem?_cons_zero, List.getElem?_cons_succ] at c0 c1 c2
    have hBF : Below w.heap.size w (Z.putObj D (.deferred none)) := hBZ.trans (belowK_b (w := w) (Nat.le_refl _) _ D _ _ (by omega) hK' rfl rfl)
    refine ⟨by simp, .inl ⟨_, _, rfl, run_takeDeferred hK', ?_⟩⟩
    refine ⟨.tuple #[.agg #[.int .i64 0, .int .u32 0], .int .i64 4], ?_, ?_, ?_, Kept.of_below hBF⟩
    · clear hr0 hr1 he0 hf0 hf1 hfe hr2 he2 hr he hZ hK' hBZ hBF hg
      simp [results, Try.f37, go_sem, c0, c1, c2]
    · simp [Tb.tI, Tb.tG, Tb.tE, HF.out]
    · have : T.take = T := by unfold Tb.take; rw [HF.out]
      rw [this]; exact H.out.below hBF
  case stop =>
    rintro D c pre W hD hpre ⟨rfl, x, rfl, ⟨h2, h3, h4⟩, h5⟩ hK
    obtain ⟨r, hr⟩ := hpre
    have hfree : T.free = x.1 :: r := hr.symm
    have HF := Lib.hid hfree
    have HK := Lib.hid (And.intro h2 (And.intro h3 (And.intro h4 h5)))
    clear hr hfree h2 h3 h4 h5
    gi_wp2
    have hg := grownBy_putObj' W D (.deferred none)
    have hr2 := HK.out.2.1.grown hg (fun r e => by cases e; exact ⟨_, hK, rfl⟩)
    have he2 := HK.out.2.2.1.grown hg (fun r e => by cases e; exact ⟨_, hK, rfl⟩)
    have ht2 := HK.out.1.bk.grown hg (fun r e => by cases e; exact ⟨_, hK, rfl⟩)
    have c0 := hr2.cell 0
    have c1 := hr2.cell 1
    have c2 := he2.cell 0
    simp only [List.getElem?_toArray, List.getElem?_cons_zero, List.getElem?_cons_succ] at c0 c1 c2
    refine ⟨by simp, .inl ⟨_, _, rfl, run_takeDeferred hK, ?_⟩⟩
    refine ⟨.tuple #[.agg #[.int .i64 ((x.1 : Nat) : Int), .int .u32 (T.g x.1)], .int .i64 0], ?_, ?_, ?_, HK.out.2.2.2.thenB (belowK_b (w := w) (Nat.le_refl _) _ D _ _ (by omega) hK rfl rfl)⟩
    · clear hr2 he2 ht2 hg
      have e2 : w.heap.size + 1 + 1 = w.heap.size + 2 := rfl
      simp [results, Try.f37, go_sem, c0, c1, c2]
    · simp [Tb.tI, Tb.tG, Tb.tE, HF.out]
    · have : T.take = T.took x.1 := by unfold Tb.take; rw [HF.out]
      rw [this]; exact ⟨HK.out.1.ok, ht2⟩
end Go.Proofs.Ytfnhkapbfgofkaa
