/- The contracts of slots' count, Retired, Free, Len. -/
import Derived.Test.YtfnhkapbfgofkaaSd
namespace Go.Proofs.Ytfnhkapbfgofkaa
open Go.RowKit

theorem count1_ok (B k : Nat) (i g : Value) (w : World) (hb : Bk w B 3 #[.int .i64 k]) (hk : k < 1000) :
    Calls Try.prog 80 #[.agg #[i, g], .pointer (some ⟨B, 0, none⟩)] w fun e w' => e = .returned (.bool true) ∧ Bk w' B 3 #[.int .i64 ((k + 1 : Nat) : Int)] ∧ Kept (· = B) w w' := by
  have hc := hb.cell 0
  have hf := hb.frozen 0
  have hl := hb.lt
  have HB : Hid (Bk ((w.setCell ⟨B, 0, none⟩ (.int .i64 (k + 1))).alloc (.cells #[i, g] 34)) B 3 #[.int .i64 ((k + 1 : Nat) : Int)]) := by
    have h := (hb.put 0 (.int .i64 ((k : Int) + 1))).below ((Below.refl _ _).alloc (Nat.le_refl _) (.cells #[i, g] 34))
    unfold Hid
    rw [Int.natCast_add]
    exact h
  simp only [List.getElem?_toArray, List.getElem?_cons_zero] at hc
  clear hb
  go_enter Try.func80, Try.ntmps80
  go_wp2
  go_ret
  exact ⟨rfl, HB.out, ((Kept.refl _ w).put1 _ _).alloc _⟩

structure CSt (w0 w : World) (B Bs Bw b : Nat) (T : Tb) (v c : Nat) : Prop where
  t : TabW w b T
  bk : Bk w B 3 #[.int .i64 c]
  bs : w.cell? ⟨Bs, 0, none⟩ = some (.pointer (some ⟨b, 0, none⟩))
  bw : w.cell? ⟨Bw, 0, none⟩ = some (.int .i64 v)
  kp : Kept (· = B) w0 w
theorem CSt.kept {w0 w w' : World} {B Bs Bw b : Nat} {T : Tb} {v c d : Nat} (h : CSt w0 w B Bs Bw b T v c) (k : Kept (· = B) w w') (hb : b ≠ B) (hs : Bs ≠ B) (hw : Bw ≠ B) (hB : Bk w' B 3 #[.int .i64 d]) : CSt w0 w' B Bs Bw b T v d :=
  ⟨h.t.kept k hb, hB, (World.cell?_of_block (a := ⟨Bs, 0, none⟩) (k.block Bs (World.block_lt_of_cell? _ _ h.bs) hs)).trans h.bs, (World.cell?_of_block (a := ⟨Bw, 0, none⟩) (k.block Bw (World.block_lt_of_cell? _ _ h.bw) hw)).trans h.bw, h.kp.trans k⟩
set_option maxRecDepth 100000 in
set_option maxHeartbeats 4000000 in
theorem in1_count (B Bs Bw b : Nat) (T : Tb) (v : Nat) (w : World) (h : CSt w w B Bs Bw b T v 0) (hb : b ≠ B) (hs : Bs ≠ B) (hw : Bw ≠ B) :
    Calls Try.prog 75 #[.func (.func 80) #[] #[.pointer (some ⟨B, 0, none⟩)], .pointer (some ⟨Bs, 0, none⟩), .pointer (some ⟨Bw, 0, none⟩)] w fun e w' => e = .returned (.tuple #[]) ∧ CSt w w' B Bs Bw b T v (sel T.s v T.n).length := by
  have hbs := h.bs
  have hc0 := h.t.c0
  have hn256 := h.t.ok.hi
  have H := Lib.hid h
  have HN := Lib.hid (And.intro hb (And.intro hs hw))
  clear h hb hs hw
  go_enter Try.func75, Try.ntmps75
  go_wp2_with (go_at_call 65; refine (valid_yes _ _ _ H.out.t).mono ?_; rintro e w' ⟨rfl, rfl⟩)
  clear hbs hc0
  go_loopw [13] (fun i wr => ∃ k : Nat, k ≤ T.n ∧ i = .int .i64 k ∧ Hid (CSt w wr B Bs Bw b T v (sel T.s v k).length)) (fun i _ => T.n - (intOf i).toNat)
  case atStart => exact ⟨0, Nat.zero_le _, rfl, H.out⟩
  case round =>
    obtain ⟨k, hk, rfl, HS⟩ := hrel
    by_cases hlt : k < T.n
    · have hbs2 := HS.out.bs
      have hbw2 := HS.out.bw
      have hls := World.block_lt_of_cell? _ _ hbs2
      have hlw := World.block_lt_of_cell? _ _ hbw2
      have hlb := HS.out.t.bt
      have hcs := HS.out.t.cs (i := k) (by omega)
      have hcg := HS.out.t.cg (i := k) (by omega)
      have hsn := sel_snoc T.s v k
      have hsl := sel_len T.s v k
      obtain ⟨y, ey⟩ : ∃ y, T.g k = y := ⟨_, rfl⟩
      obtain ⟨x, ex⟩ : ∃ x, T.s k = x := ⟨_, rfl⟩
      obtain ⟨c, ec⟩ : ∃ c, (sel T.s v k).length = c := ⟨_, rfl⟩
      rw [ey] at hcg
      rw [ex] at hcs hsn
      rw [ec] at HS hsl
      have hal : Below wr.heap.size wr (wr.alloc (.cells #[.int .i64 x, .int .u32 y] 109)) := (Below.refl _ wr).alloc (Nat.le_refl _) _
      have HS1 : Hid (CSt w (wr.alloc (.cells #[.int .i64 x, .int .u32 y] 109)) B Bs Bw b T v c) := HS.out.kept (Kept.of_below hal) HN.out.1 HN.out.2.1 HN.out.2.2 (HS.out.bk.below hal)
      by_cases hx : x = v
      · subst hx
        have hlen : (sel T.s x (k + 1)).length = c + 1 := by rw [hsn, List.length_append, ec]; simp
        have HL := Lib.hid hlen
        clear hlen hsn ey ex ec hal
        go_wp2_with fail
        clear hbs2 hbw2 hcs hcg
        refine (count1_ok B c _ _ _ HS1.out.bk (by omega)).mono ?_
        rintro e w3 ⟨rfl, hb3, hk3⟩
        have HS3 := Lib.hid (HS1.out.kept hk3 HN.out.1 HN.out.2.1 HN.out.2.2 hb3)
        clear hb3 hk3
        go_wp2
        go_roundw
        case rel => exact ⟨k + 1, by omega, by go_num, by rw [HL.out]; exact HS3.out⟩
        case measure => simp [intOf]; omega
      · have hlen : (sel T.s v (k + 1)).length = c := by rw [hsn, if_neg hx, List.append_nil, ec]
        have HL := Lib.hid hlen
        have hxv : ((x : Int) == (v : Int)) = false := beq_eq_false_iff_ne.2 (by omega)
        clear hlen hsn ey ex ec hx hal
        go_wp2
        go_roundw
        case rel => exact ⟨k + 1, by omega, by go_num, by rw [HL.out]; exact HS1.out⟩
        case measure => simp [intOf]; omega
    · obtain rfl : k = T.n := by omega
      go_wp2
      go_end0
      exact ⟨rfl, HS.out⟩
theorem in1_inv (y : Value) (v : Option Addr) (Bs : Nat) (q : Value) (w : World) (h : Inv w v) (hs : w.cell? ⟨Bs, 0, none⟩ = some (.pointer v)) :
    Calls Try.prog 75 #[y, .pointer (some ⟨Bs, 0, none⟩), q] w fun e w' => e = .returned (.tuple #[]) ∧ w = w' := by
  have H := Lib.hid h
  clear h
  go_enter Try.func75, Try.ntmps75
  go_wp2_with (go_at_call 65; refine (valid_no _ _ H.out).mono ?_; rintro e w' ⟨rfl, rfl⟩)
  refine bodyPost_ret (results_none rfl _ _ _) rfl ?_
  exact ⟨rfl, rfl⟩

/-- What the boxes hold that count and in have laid. -/
theorem boxes (w : World) (a : Option Addr) (v : Int) {w2 : World} (h : (w.alloc (.cells #[.pointer a] 77)).alloc (.cells #[.int .i64 v] 107) = w2) :
    w2.cell? ⟨w.heap.size, 0, none⟩ = some (.pointer a) ∧ w2.cell? ⟨w.heap.size + 1, 0, none⟩ = some (.int .i64 v) ∧ w2.heap.size = w.heap.size + 2 ∧ Below w.heap.size w w2 := by
  subst h
  have b1 := (Bk.new w 77 #[.pointer a]).same (w' := (w.alloc (.cells #[.pointer a] 77)).alloc (.cells #[.int .i64 v] 107)) (Below.heap_alloc _ _ _ (by simp))
  have b2 := Bk.new (w.alloc (.cells #[.pointer a] 77)) 107 #[.int .i64 v]
  rw [World.size_alloc] at b2
  exact ⟨b1.cell 0, b2.cell 0, by simp, ((Below.refl _ w).alloc (Nat.le_refl _) _).alloc (by simp) _⟩
set_option maxHeartbeats 1000000 in
theorem count_ok (b : Nat) (T : Tb) (v : Nat) (w : World) (h : TabW w b T) : Calls Try.prog 73 #[.pointer (some ⟨b, 0, none⟩), .int .i64 v] w fun e w' => e = .returned (.int .i64 (sel T.s v T.n).length) ∧ Below w.heap.size w w' := by
  have H := Lib.hid h
  clear h
  go_enter Try.func73, Try.ntmps73
  go_wp2_with fail
  refine (in_ok _ _ _).mono ?_
  rintro e w' ⟨rfl, rfl⟩
  obtain ⟨w2, hw2⟩ : ∃ w2, ((w.alloc (.cells #[.int .i64 0] 3)).alloc (.cells #[.pointer (some ⟨b, 0, none⟩)] 77)).alloc (.cells #[.int .i64 v] 107) = w2 := ⟨_, rfl⟩
  obtain ⟨hx1, hx2, hx3, hx4⟩ := boxes (w.alloc (.cells #[.int .i64 0] 3)) _ _ hw2
  rw [World.size_alloc] at hx1 hx2 hx3 hx4
  have hB0 : Below w.heap.size w w2 := ((Below.refl _ w).alloc (Nat.le_refl _) _).trans (hx4.mono (by omega))
  have bO : Bk w2 w.heap.size 3 #[.int .i64 (0 : Nat)] := (Bk.new w 3 #[.int .i64 0]).same (hx4.block _ (by omega))
  have hbt := H.out.bt
  have HC : Hid (CSt w2 w2 w.heap.size (w.heap.size + 1) (w.heap.size + 2) b T v 0) := ⟨H.out.below hB0, bO, hx1, hx2, Kept.refl _ _⟩
  have HB := Lib.hid hB0
  have HX := Lib.hid hx3
  rw [hw2]
  clear hw2 hx1 hx2 hx3 hx4 hB0 bO
  go_wp2_with fail
  refine (in1_count _ _ _ b T v _ HC.out (by omega) (by omega) (by omega)).mono ?_
  rintro e w3 ⟨rfl, h3⟩
  have H3 := Lib.hid h3
  have hc := H3.out.bk.cell 0
  simp only [List.getElem?_toArray, List.getElem?_cons_zero] at hc
  clear h3
  go_wp2
  go_ret
  exact ⟨rfl, HB.out.trans (H3.out.kp.below (by have := HX.out; omega) (fun k e => by omega))⟩
theorem count_inv (v : Option Addr) (u : Int) (w : World) (h : Inv w v) : Calls Try.prog 73 #[.pointer v, .int .i64 u] w fun e w' => e = .returned (.int .i64 0) ∧ Below w.heap.size w w' := by
  have H := Lib.hid h
  clear h
  go_enter Try.func73, Try.ntmps73
  go_wp2_with fail
  refine (in_ok _ _ _).mono ?_
  rintro e w' ⟨rfl, rfl⟩
  obtain ⟨w2, hw2⟩ : ∃ w2, ((w.alloc (.cells #[.int .i64 0] 3)).alloc (.cells #[.pointer v] 77)).alloc (.cells #[.int .i64 u] 107) = w2 := ⟨_, rfl⟩
  obtain ⟨hx1, hx2, hx3, hx4⟩ := boxes (w.alloc (.cells #[.int .i64 0] 3)) _ _ hw2
  rw [World.size_alloc] at hx1 hx2 hx3 hx4
  have hB0 : Below w.heap.size w w2 := ((Below.refl _ w).alloc (Nat.le_refl _) _).trans (hx4.mono (by omega))
  have bO : Bk w2 w.heap.size 3 #[.int .i64 0] := (Bk.new w 3 #[.int .i64 0]).same (hx4.block _ (by omega))
  have hc := bO.cell 0
  simp only [List.getElem?_toArray, List.getElem?_cons_zero] at hc
  have HI := Lib.hid (H.out.below hB0)
  have HB := Lib.hid hB0
  have HX := Lib.hid hx1
  rw [hw2]
  clear hw2 hx1 hx2 hx3 hx4 hB0 bO
  go_wp2_with fail
  refine (in1_inv _ v _ _ _ HI.out HX.out).mono ?_
  rintro e w' ⟨rfl, rfl⟩
  go_wp2
  go_ret
  exact ⟨rfl, HB.out⟩
theorem free_ok (b : Nat) (T : Tb) (w : World) (h : TabW w b T) : Calls Try.prog 62 #[.pointer (some ⟨b, 0, none⟩)] w fun e w' => e = .returned (.int .i64 T.free.length) ∧ Below w.heap.size w w' := by
  have H := Lib.hid h
  clear h
  go_enter Try.func62, Try.ntmps62
  go_wp2_with fail
  refine (count_ok b T 0 _ H.out).mono ?_
  rintro e w1 ⟨rfl, hb⟩
  go_wp2
  go_ret
  exact ⟨rfl, hb⟩
theorem len_ok (b : Nat) (T : Tb) (w : World) (h : TabW w b T) : Calls Try.prog 61 #[.pointer (some ⟨b, 0, none⟩)] w fun e w' => e = .returned (.int .i64 T.held.length) ∧ Below w.heap.size w w' := by
  have H := Lib.hid h
  clear h
  go_enter Try.func61, Try.ntmps61
  go_wp2_with fail
  refine (count_ok b T 1 _ H.out).mono ?_
  rintro e w1 ⟨rfl, hb⟩
  go_wp2
  go_ret
  exact ⟨rfl, hb⟩
theorem free_inv (v : Option Addr) (w : World) (h : Inv w v) : Calls Try.prog 62 #[.pointer v] w fun e w' => e = .returned (.int .i64 0) ∧ Below w.heap.size w w' := by
  have H := Lib.hid h
  clear h
  go_enter Try.func62, Try.ntmps62
  go_wp2_with fail
  refine (count_inv v 0 _ H.out).mono ?_
  rintro e w1 ⟨rfl, hb⟩
  go_wp2
  go_ret
  exact ⟨rfl, hb⟩
theorem len_inv (v : Option Addr) (w : World) (h : Inv w v) : Calls Try.prog 61 #[.pointer v] w fun e w' => e = .returned (.int .i64 0) ∧ Below w.heap.size w w' := by
  have H := Lib.hid h
  clear h
  go_enter Try.func61, Try.ntmps61
  go_wp2_with fail
  refine (count_inv v 1 _ H.out).mono ?_
  rintro e w1 ⟨rfl, hb⟩
  go_wp2
  go_ret
  exact ⟨rfl, hb⟩
end Go.Proofs.Ytfnhkapbfgofkaa
