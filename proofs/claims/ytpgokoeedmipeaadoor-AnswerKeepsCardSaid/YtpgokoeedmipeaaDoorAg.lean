/- The contracts of sources: New, Add, Next, Left, Copy, of the program. -/
import Derived.Test.YtpgokoeedmipeaaDoorAc
import Derived.Test.YtpgokoeedmipeaaDoorAd
import Derived.Test.YtpgokoeedmipeaaDoorAe
namespace Go.Proofs.YtpgokoeedmipeaaDoor
open Go.RowKit

theorem kept_bel {w0 a b : World} {k : Nat} (h : Below w0.heap.size w0 a) (k1 : Kept (· = k) a b) (hk : w0.heap.size ≤ k) : Below w0.heap.size w0 b :=
  h.trans (k1.below h.size fun _ e => by subst e; exact hk)

/-- The block of a source's answers is one that P names. -/
def At (w : World) (b : Nat) (P : Nat → Prop) : Prop := ∃ a n c, w.cell? ⟨b, 1, none⟩ = some (.slice a n c) ∧ ∀ a0, a = some a0 → P a0.block
theorem At.same {w w' : World} {b : Nat} {P : Nat → Prop} (h : At w b P) (e : w'.heap[b]? = w.heap[b]?) : At w' b P := by
  obtain ⟨a, n, c, h1, h2⟩ := h
  exact ⟨a, n, c, (World.cell?_of_block (a := ⟨b, 1, none⟩) e).trans h1, h2⟩
theorem At.lt {w : World} {b : Nat} {P : Nat → Prop} (h : At w b P) : b < w.heap.size := by
  obtain ⟨a, n, c, h1, h2⟩ := h
  exact World.block_lt_of_cell? _ _ h1
theorem At.below {w w' : World} {b : Nat} {P : Nat → Prop} (h : At w b P) (hb : Below w.heap.size w w') : At w' b P := h.same (hb.block b h.lt)
theorem At.mono {w : World} {b : Nat} {P Q : Nat → Prop} (h : At w b P) (k : ∀ j, P j → Q j) : At w b Q := by
  obtain ⟨a, n, c, h1, h2⟩ := h
  exact ⟨a, n, c, h1, fun a0 e => k _ (h2 a0 e)⟩
theorem At.here {w : World} {b n c : Nat} {a : Option Addr} {P : Nat → Prop} (h : At w b P) (hc : w.cell? ⟨b, 1, none⟩ = some (.slice a n c)) : ∀ a0, a = some a0 → P a0.block := by
  obtain ⟨a', n', c', h1, h2⟩ := h
  rw [hc] at h1
  injection h1 with h1
  injection h1 with h1 _ _
  subst h1
  exact h2
theorem At.put {t : TypeId} {w : World} {b n c : Nat} {a : Option Addr} {u v : Value} {P : Nat → Prop} (h : Bk w b t #[u, v]) (k : ∀ a0, a = some a0 → P a0.block) : At (w.setCell ⟨b, 1, none⟩ (.slice a n c)) b P :=
  ⟨a, n, c, by rw [(h.put 1 (.slice a n c)).cell]; rfl, k⟩

/-! ### answer.Source -/
theorem new_ok (w : World) : Calls Tryd.prog 5 #[] w fun e w' => e = .returned (.pointer (some ⟨w.heap.size, 0, none⟩)) ∧ SrcW 39 w' w.heap.size [] ∧ Below w.heap.size w w' := by
  go_enter Tryd.func5, Tryd.ntmps5
  go_wp2
  go_ret
  exact ⟨rfl, ⟨src_nil, _, _, Bk.new w _ _, Sl.nil _⟩, (Below.refl _ w).alloc (Nat.le_refl _) _⟩
theorem left_ok (b : Nat) (L : List Int) (w : World) (h : SrcW 39 w b L) : Calls Tryd.prog 10 #[.pointer (some ⟨b, 0, none⟩)] w fun e w' => e = .returned (.int .i64 L.length) ∧ w = w' := by
  obtain ⟨a, c, hc0, hc1, _, _, _⟩ := h.cells
  clear h
  go_enter Tryd.func10, Tryd.ntmps10
  go_wp2_with (go_at_call 15; refine (valid_yes _ _ hc0).mono ?_; rintro e w' ⟨rfl, rfl⟩)
  go_ret
  exact ⟨rfl, rfl⟩
set_option maxHeartbeats 1000000 in
theorem next_at (b : Nat) (L : List Int) (w : World) (h : SrcW 39 w b L) : Calls Tryd.prog 11 #[.pointer (some ⟨b, 0, none⟩)] w fun e w' => e = .returned (.int .i64 (L.headD 1)) ∧ SrcW 39 w' b L.tail ∧ Kept (· = b) w w' ∧ Hid (∀ P : Nat → Prop, At w b P → At w' b P) := by
  obtain ⟨a, c, hc0, hc1, hf, hsl, hbk⟩ := h.cells
  have H := Lib.hid h
  have HB := Lib.hid hbk
  have HS := Lib.hid hsl
  cases L with
  | nil =>
    clear h hbk hsl
    go_enter Tryd.func11, Tryd.ntmps11
    go_wp2_with (go_at_call 15; refine (valid_yes _ _ hc0).mono ?_; rintro e w' ⟨rfl, rfl⟩)
    go_ret
    exact ⟨rfl, H.out, Kept.refl _ _, fun _ h => h⟩
  | cons x l =>
    obtain ⟨g, off, rfl, hg, hcell, _⟩ := hsl.cell (j := 0) (by simp)
    obtain ⟨_, hcap, _, _⟩ := hsl.cap
    simp only [List.getElem_cons_zero, Nat.add_zero] at hcell
    by_cases hc : c = 1
    · subst hc
      have hl : l = [] := List.eq_nil_of_length_eq_zero (by rw [List.length_cons] at hcap; omega)
      subst hl
      have hP : Hid (SrcW 39 (w.setCell ⟨b, 1, none⟩ (.slice (some ⟨g, off, none⟩) 0 0)) b []) := SrcW.put hbk (src_tail h.ok) (Sl.tail0 hsl) (by decide)
      have hK : Hid (Kept (· = b) w (w.setCell ⟨b, 1, none⟩ (.slice (some ⟨g, off, none⟩) 0 0))) := (Kept.refl (· = b) w).put1 1 _
      simp only [List.length_cons, List.length_nil, Nat.zero_add] at hc1 hcap
      have hA : Hid (∀ P : Nat → Prop, At w b P → At (w.setCell ⟨b, 1, none⟩ (.slice (some ⟨g, off, none⟩) 0 0)) b P) := fun P h => At.put hbk (fun a0 e => by have := At.here h hc1 _ rfl; cases e; exact this)
      clear h hbk hsl H HB HS
      go_enter Tryd.func11, Tryd.ntmps11
      go_wp2_with (go_at_call 15; refine (valid_yes _ _ hc0).mono ?_; rintro e w' ⟨rfl, rfl⟩)
      go_ret
      exact ⟨rfl, hP.out, hK.out, hA.out⟩
    · have hP : Hid (SrcW 39 (w.setCell ⟨b, 1, none⟩ (.slice (some ⟨g, off + 1, none⟩) l.length (c - 1))) b l) := SrcW.put hbk (src_tail h.ok) (Sl.tail hsl) (by decide)
      have hK : Hid (Kept (· = b) w (w.setCell ⟨b, 1, none⟩ (.slice (some ⟨g, off + 1, none⟩) l.length (c - 1)))) := (Kept.refl (· = b) w).put1 1 _
      simp only [List.length_cons] at hc1 hcap
      have hA : Hid (∀ P : Nat → Prop, At w b P → At (w.setCell ⟨b, 1, none⟩ (.slice (some ⟨g, off + 1, none⟩) l.length (c - 1))) b P) := fun P h => At.put hbk (fun a0 e => by have := At.here h hc1 _ rfl; cases e; exact this)
      clear h hbk hsl H HB HS
      go_enter Tryd.func11, Tryd.ntmps11
      go_wp2_with (go_at_call 15; refine (valid_yes _ _ hc0).mono ?_; rintro e w' ⟨rfl, rfl⟩)
      go_ret
      exact ⟨rfl, hP.out, hK.out, hA.out⟩
theorem next_ok (b : Nat) (L : List Int) (w : World) (h : SrcW 39 w b L) : Calls Tryd.prog 11 #[.pointer (some ⟨b, 0, none⟩)] w fun e w' => e = .returned (.int .i64 (L.headD 1)) ∧ SrcW 39 w' b L.tail ∧ Kept (· = b) w w' :=
  (next_at b L w h).mono fun _ _ ⟨h1, h2, h3, _⟩ => ⟨h1, h2, h3⟩
set_option maxHeartbeats 2000000 in
theorem add_at (s : ByteArray) (b : Nat) (L : List Int) (w : World) (he : Env w) (h : SrcW 39 w b L) (hs : s.size ≤ 140737488351232) : Calls Tryd.prog 6 #[.pointer (some ⟨b, 0, none⟩), .string s] w fun e w' => e = .returned (.int .i64 (aE L s.data.toList)) ∧ SrcW 39 w' b (aL L s.data.toList) ∧ Kept (· = b) w w' ∧ Hid (∀ P : Nat → Prop, (∀ k, w.heap.size ≤ k → P k) → At w b P → At w' b P) := by
  have hc0 := h.cells.choose_spec.choose_spec.1
  have H := Lib.hid h
  have HP := Lib.hid (parse_ok s w he hs)
  have HSZ := Lib.hid (size_data s)
  clear h he
  go_enter Tryd.func6, Tryd.ntmps6
  go_wp2_with fail
  refine (valid_yes _ _ hc0).mono ?_
  rintro e w' ⟨rfl, rfl⟩
  go_wp2_with fail
  refine HP.out.mono ?_
  rintro e w1 ⟨v, rfl, hv, hb1⟩
  obtain ⟨a1, c1, rfl, hv1⟩ := hv.len
  have HV := Lib.hid hv1
  have HB1 := Lib.hid hb1
  have HS1 := Lib.hid (H.out.below hb1)
  by_cases hE : pE s.data.toList = 0
  · have hle := H.out.ok.le
    have hpl := pL_ok hE
    have hnl : (nums s.data.toList).length = s.data.toList.length := nums_length _
    by_cases hm : L.length + s.data.toList.length ≤ 2000
    · have hA := aE_ok hE hm
      have HA := Lib.hid (And.intro hA (aL_ok hA))
      have HL2 : Hid (Src (L ++ nums s.data.toList)) := by
        have := src_add H.out.ok s.data.toList
        rwa [aL_ok hA] at this
      rw [hpl] at HV ⊢
      rw [hE]
      have hm2 : L.length + (nums s.data.toList).length ≤ 2000 := by rw [hnl]; exact hm
      generalize nums s.data.toList = M at *
      obtain ⟨a, c, hd0, hd1, hdf, hdsl, hdbk⟩ := HS1.out.cells
      have HD := Lib.hid hdsl
      have HK := Lib.hid hdbk
      have hbl := hdbk.lt
      clear hv hv1 hb1 hdsl hdbk hc0 hE hA hnl hpl hm
      go_wp2_with fail
      have HC1 : Hid (Bk (w1.alloc (.cells #[.slice a L.length c, .slice a1 M.length c1] 29)) w1.heap.size 29 #[.slice a L.length c, .slice a1 M.length c1]) := Bk.new w1 _ _
      have HBW : Hid (Below w1.heap.size w1 (w1.alloc (.cells #[.slice a L.length c, .slice a1 M.length c1] 29))) := (Below.refl _ w1).alloc (Nat.le_refl _) _
      refine (concat_ok w1.heap.size a a1 L.length M.length c c1 L M _ (HC1.out.cell 0) (HC1.out.cell 1) (HD.out.below HBW.out) (HV.out.below HBW.out) (by omega) (by omega)).mono ?_
      rintro e w2 ⟨u, rfl, hown, hb2⟩
      have hb3 : Below w1.heap.size w1 w2 := bel2 HBW.out hb2
      have hsl := Sl.of_own hown
      obtain ⟨a2, c2, rfl, hsl2⟩ := hsl.len
      have hbk2 := HK.out.below hb3
      have hP : Hid (SrcW 39 (w2.setCell ⟨b, 1, none⟩ (.slice a2 (L ++ M).length c2)) b (L ++ M)) := SrcW.put hbk2 HL2.out hsl2 (by decide)
      have hKK : Hid (Kept (· = b) w (w2.setCell ⟨b, 1, none⟩ (.slice a2 (L ++ M).length c2))) := ((Kept.of_below (bel2 HB1.out hb3)) : Kept (· = b) w w2).put1 1 _
      have hcb : w2.cell? ⟨b, 1, none⟩ = some (.slice a L.length c) := hbk2.cell 1
      have hfb : w2.frozen? ⟨b, 1, none⟩ = false := hbk2.frozen 1
      have hAt : Hid (∀ P : Nat → Prop, (∀ k, w.heap.size ≤ k → P k) → At w b P → At (w2.setCell ⟨b, 1, none⟩ (.slice a2 (L ++ M).length c2)) b P) := fun P hP _ => At.put hbk2 fun a0 ha => hP _ (Nat.le_trans (Nat.le_trans HB1.out.size HBW.out.size) (hown.lt a0.block (by subst ha; rfl)).1)
      clear hown hb3 hsl hsl2 hbk2 hd0 hd1 hdf
      generalize (L ++ M).length = N at *
      go_wp2
      go_ret
      exact ⟨by rw [HA.out.1]; rfl, by rw [HA.out.2]; exact hP.out, hKK.out, hAt.out⟩
    · have hA := aE_many hE (by omega : 2000 < L.length + s.data.toList.length)
      have HA := Lib.hid (And.intro hA (aL_no (L := L) (bs := s.data.toList) (by rw [hA]; decide)))
      rw [hpl] at HV ⊢
      rw [hE]
      have hm2 : 2000 < L.length + (nums s.data.toList).length := by rw [hnl]; omega
      have hml : (nums s.data.toList).length ≤ 2000 := by rw [hnl]; exact (pE_zero hE).1
      generalize nums s.data.toList = M at *
      obtain ⟨a, c, hd0, hd1, hdf, hdsl, hdbk⟩ := HS1.out.cells
      clear hv hv1 hb1 hdsl hdbk hc0 hE hA hnl hpl hm
      go_wp2
      go_ret
      exact ⟨by rw [HA.out.1]; rfl, by rw [HA.out.2]; exact HS1.out, Kept.of_below HB1.out, fun _ _ h => h.below HB1.out⟩
  · have hA := aE_parse (L := L) hE
    have HA := Lib.hid (And.intro hA (aL_no (L := L) (bs := s.data.toList) (by rw [hA]; exact hE)))
    have hne : ((pE s.data.toList : Int) != 0) = true := by simp; omega
    generalize pE s.data.toList = E at *
    clear hv hv1 hb1 hc0 hE hA
    go_wp2
    go_ret
    exact ⟨by rw [HA.out.1]; rfl, by rw [HA.out.2]; exact HS1.out, Kept.of_below HB1.out, fun _ _ h => h.below HB1.out⟩
theorem add_ok (s : ByteArray) (b : Nat) (L : List Int) (w : World) (he : Env w) (h : SrcW 39 w b L) (hs : s.size ≤ 140737488351232) : Calls Tryd.prog 6 #[.pointer (some ⟨b, 0, none⟩), .string s] w fun e w' => e = .returned (.int .i64 (aE L s.data.toList)) ∧ SrcW 39 w' b (aL L s.data.toList) ∧ Kept (· = b) w w' :=
  (add_at s b L w he h hs).mono fun _ _ ⟨h1, h2, h3, _⟩ => ⟨h1, h2, h3⟩
set_option maxHeartbeats 1000000 in
theorem copy_ok (b : Nat) (L : List Int) (w : World) (h : SrcW 39 w b L) : Calls Tryd.prog 8 #[.pointer (some ⟨b, 0, none⟩)] w fun e w' => ∃ b', w.heap.size ≤ b' ∧ e = .returned (.pointer (some ⟨b', 0, none⟩)) ∧ SrcW 39 w' b' L ∧ Below w.heap.size w w' := by
  obtain ⟨a, c, hc0, hc1, hf, hsl, hbk⟩ := h.cells
  have hle := h.ok.le
  have H := Lib.hid h
  have HS := Lib.hid hsl
  clear h hsl hbk
  go_enter Tryd.func8, Tryd.ntmps8
  go_wp2_with fail
  refine (valid_yes _ _ hc0).mono ?_
  rintro e w' ⟨rfl, rfl⟩
  go_wp2_with fail
  refine (clone_ok a L.length c L _ HS.out (by omega)).mono ?_
  rintro e w1 ⟨u, rfl, hown, hb1⟩
  have hsl1 := Sl.of_own hown
  obtain ⟨a1, c1, rfl, hsl2⟩ := hsl1.len
  have HB1 := Lib.hid hb1
  have HV := Lib.hid hsl2
  clear hown hb1 hsl1 hsl2 hc0 hc1 hf
  go_wp2
  go_ret
  exact ⟨_, HB1.out.size, rfl, ⟨H.out.ok, a1, c1, Bk.new _ _ _, HV.out.below ((Below.refl _ _).alloc (Nat.le_refl _) _)⟩, HB1.out.alloc HB1.out.size _⟩
end Go.Proofs.YtpgokoeedmipeaaDoor
