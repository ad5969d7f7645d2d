/- The walk of the statement TagsRefuses at a tag: it returns true for all places and pieces. -/
import Derived.Test.YtmgkdklpahggjaaDoorRn
import Derived.Deep.RegionWith
namespace Go.Proofs.YtmgkdklpahggjaaDoor
open Go.RowKit

def OfRel (s : ByteArray) (rs : List Nat) (n k1 : Nat) (w : World) (v : Value) (wr : World) : Prop :=
  ∃ (ps ts : List Nat) (po : Nat), Hid (rs = ps ++ ts) ∧ Hid (po = (ps.flatMap encR).length) ∧ ps.length ≤ 24 ∧ wr.ownsRow n 3 1 v ps.length (ints (offs rs ps.length)) ∧ Below n w wr ∧ wr.heap[k1]? = some (.stringIter s po) ∧ k1 < wr.heap.size ∧ n ≤ wr.heap.size

theorem own_iterAt {w : World} {base : Nat} {e : TypeId} {size n k : Nat} {v : Value} {xs : List Value} {s : ByteArray} {pos : Nat} (h : w.ownsRow base e size v n xs) (hk : w.heap[k]? = some (.stringIter s pos)) (pos' : Nat) : (w.iterAt k s pos').ownsRow base e size v n xs := by
  refine ⟨h.1, ?_⟩
  rcases h.2 with h0 | ⟨g, cap, cur, hv, hg, hh, rest⟩
  · exact .inl h0
  · refine .inr ⟨g, cap, cur, hv, hg, (Lib.iterAt_other _ _ _ _ _ (fun e => ?_)).trans hh, rest⟩
    rw [e, hk] at hh; cases hh
theorem own_not_iter {w : World} {base : Nat} {e : TypeId} {size n k : Nat} {v : Value} {xs : List Value} {s : ByteArray} {pos : Nat} (h : w.ownsRow base e size v n xs) (hk : w.heap[k]? = some (.stringIter s pos)) : v.ownBlock ≠ some k := by
  intro e
  rcases h.2 with ⟨hv, _⟩ | ⟨g, cap, cur, hv, hg, hh, rest⟩
  · rw [hv] at e; cases e
  · rw [hv] at e
    have e2 : k = g := by simpa [Value.ownBlock] using e.symm
    rw [← e2, hk] at hh; cases hh
theorem own_form {w : World} {base : Nat} {e : TypeId} {size n : Nat} {v : Value} {xs : List Value} (h : w.ownsRow base e size v n xs) (hn : 0 < n) : ∃ g cap, v = .slice (some ⟨g, 0, none⟩) n cap ∧ base ≤ g ∧ g < w.heap.size := by
  rcases h.2 with ⟨_, h0⟩ | ⟨g, cap, cur, hv, hg, hh, _⟩
  · omega
  · exact ⟨g, cap, hv, hg, (Array.getElem?_eq_some_iff.1 hh).1⟩
theorem ints_snoc (l : List Nat) (x : Nat) : ints l ++ [.int .i64 (x : Int)] = ints (l ++ [x]) := by simp [ints]

set_option maxRecDepth 100000 in
set_option maxHeartbeats 8000000 in
theorem refs_tag (s : ByteArray) (rs : List Nat) (x1 x2 j m : Nat) (w : World) (he : Env w) (ht : Tag s.data.toList rs) (hx1 : x1 < 256) (hx2 : x2 < 256) (hj : x1 % (rs.length + 1) = j) (hm : x2 % 12 = m) :
    Calls Tryd.prog 11 #[.string s, .int .u8 x1, .int .u8 x2] w fun e w' => e = .returned (.bool true) ∧ Below w.heap.size w w' := by
  obtain ⟨i0, hi, hz0, hz1, hz2⟩ := info_parts info_int
  have hs : s.size ≤ 96 := by rw [Lib.size_eq]; exact (tag_len ht).2
  have h24 := ht.le
  have hjn : j ≤ rs.length := by rw [← hj]; have := Nat.mod_lt x1 (show 0 < rs.length + 1 by omega); omega
  have hm12 : m < 12 := by omega
  have HU := Lib.hid ht.utf
  have HT := Lib.hid ht
  have HE := Lib.hid he
  clear ht he
  go_enter Tryd.func11, Tryd.ntmps11
  go_wp2_with fail
  refine (check_tag s rs _ HE.out HT.out).mono ?_
  rintro e w1 ⟨rfl, hb1⟩
  have hs1 : w.heap.size ≤ w1.heap.size := hb1.size
  go_wp2_with fail
  have hit0 : (w1.iter s 0).heap[w1.heap.size]? = some (.stringIter s 0) := World.iter_heap w1 s 0
  have hbi : Below w.heap.size w (w1.iter s 0) := hb1.trans ((Below.refl w.heap.size w1).alloc (by omega) _)
  have hzi : w1.heap.size < (w1.iter s 0).heap.size := (Array.getElem?_eq_some_iff.1 hit0).1
  clear hb1
  go_loopw [7] (fun v wr => OfRel s rs w.heap.size w1.heap.size w v wr) (fun _ wr => s.size - wr.iterPos w1.heap.size)
  case atStart => exact ⟨[], rs, 0, rfl, rfl, by simp, World.ownsRow_nil _ _ _ _, hbi, hit0, hzi, by omega⟩
  case round =>
    clear hit0 hbi hzi
    obtain ⟨ps, ts, po, HPT, HPO, hpl, hown, hbw, hit, hk1, hnw⟩ := hrel
    cases ts with
    | nil =>
      have hp : ¬ po < s.size := by rw [HPO.out, Lib.size_eq, HU.out.2, HPT.out]; simp
      have hnx : ∀ ty, (Instr.next (.pointer (some ⟨w1.heap.size, 0, none⟩)) true ty).run Tryd.prog wr = _ := fun ty => Lib.run_next_end_at wr w1.heap.size s _ ty hit hp
      have hps : ps = rs := by rw [HPT.out, List.append_nil]
      rw [hps] at hown
      have hpos := HT.out.pos
      obtain ⟨g, cap, rfl, hg0, hgl⟩ := own_form hown (by omega)
      clear hp hps hit
      go_wp2_with (at_builtin; refine wpList_append_own _ rfl _ _ 38 rfl w.heap.size 3 i0 (.int .i64 0) 1 8 Tryd.underlying38 hi hz0 hz1 hz2 rfl (by decide) _ _ _ rfl (hown.alloc _) ⟨wr.heap.size, 0, none⟩ 1 1 [.int .i64 s.size] rfl rfl ?c1 ?c2 ?c3 ?c4 ?c5 ?_)
      case c1 =>
        intro j u hj
        match j, hj with
        | 0, hj => simp at hj; subst hj; simp [Addr.add]
      case c2 => intro u hu; simp at hu; subst hu; rfl
      case c3 => unfold maxLen; omega
      case c4 => omega
      case c5 => simp; omega
      intro v' w2 hown' hgrow _
      have HB2 := Lib.hid ((hbw.alloc hnw _).grown hgrow (by simp; omega) (fun k hk => (World.ownsRow.lt hown k hk).1))
      have hnw2 : w.heap.size ≤ w2.heap.size := by have := hgrow.size; simp at this; omega
      have hoff : ints (offs rs rs.length) ++ [.int .i64 (s.size : Int)] = ints (offs rs (rs.length + 1)) := by
        rw [ints_snoc, offs_succ, List.take_length, Lib.size_eq, ← HU.out.2]
      rw [hoff] at hown'
      obtain ⟨g2, cap2, rfl, hg2, hgl2⟩ := own_form hown' (by omega)
      obtain ⟨k, hk⟩ : ∃ k, ((rs.take j).flatMap encR).length = k := ⟨_, rfl⟩
      have hcell : w2.cell? ⟨g2, j, none⟩ = some (.int .i64 (k : Int)) := by
        rw [World.ownsRow.cellAt hown' j (by omega)]
        simp only [ints, List.getElem?_map, offs_get rs (rs.length + 1) j (by omega), hk, Option.map_some]
      have hsplit : s.data.toList = (rs.take j).flatMap encR ++ (rs.drop j).flatMap encR := by
        rw [← List.flatMap_append, List.take_append_drop]; exact HU.out.2
      have hks : k ≤ s.size := by rw [Lib.size_eq, hsplit, List.length_append, hk]; omega
      obtain ⟨P, hP⟩ : ∃ P, s.extract 0 k = P := ⟨_, rfl⟩
      obtain ⟨R, hR⟩ : ∃ R, s.extract k s.size = R := ⟨_, rfl⟩
      have hPl : P.data.toList = (rs.take j).flatMap encR := by
        rw [← hP, Lib.extract_data, List.drop_zero, Nat.sub_zero, hsplit, ← hk, List.take_left]
      have hRl : R.data.toList = (rs.drop j).flatMap encR := by
        rw [← hR, Lib.extract_data, hsplit, ← hk, List.drop_left, List.take_of_length_le]
        rw [Lib.size_eq, hsplit, List.length_append]; omega
      have hPs : P.size ≤ 96 := by rw [Lib.size_eq, hPl, hk]; omega
      have hRs : R.size ≤ 96 := by rw [Lib.size_eq, hRl]; rw [Lib.size_eq, hsplit, List.length_append] at hs; omega
      have hup : Utf P.data.toList (rs.take j) := ⟨fun r hr => HU.out.1 r (List.mem_of_mem_take hr), hPl⟩
      have hur : Utf R.data.toList (rs.drop j) := ⟨fun r hr => HU.out.1 r (List.mem_of_mem_drop hr), hRl⟩
      obtain ⟨B, hB⟩ : ∃ B, badB m = B := ⟨_, rfl⟩
      have hBs : B.size ≤ 5 := by rw [← hB]; exact badB_size m
      have HNT : Hid (NoTag (P ++ B ++ R).data.toList) := by
        have := noTag_piece hup hur m
        rw [hB] at this
        unfold Hid
        simpa [List.append_assoc] using this
      have HLT : Hid (((rs.length < 24) ∧ ∃ ts, Tag (P ++ ⟨#[113]⟩ ++ R).data.toList ts) ∨ (¬ (rs.length < 24) ∧ NoTag (P ++ ⟨#[113]⟩ ++ R).data.toList)) := by
        have ht2 : Tag (P.data.toList ++ R.data.toList) (rs.take j ++ rs.drop j) := by
          rw [hPl, hRl, ← hsplit, List.take_append_drop]; exact HT.out
        have := tag_letter hup hur ht2
        rw [List.take_append_drop] at this
        have e : (P ++ ⟨#[113]⟩ ++ R).data.toList = P.data.toList ++ (113 :: R.data.toList) := by simp
        unfold Hid
        rw [e]
        rcases this with ⟨h1, h2⟩ | ⟨h1, h2⟩
        · exact .inl ⟨h1, _, h2⟩
        · exact .inr ⟨h1, h2⟩
      have HBB := Lib.hid hB
      have e1' : (x1 : Int) % ((rs.length : Int) + 1) = (j : Int) := by
        have := congrArg (fun n : Nat => (n : Int)) hj
        simpa using this
      have e1 : (x1 : Int).tmod ((rs.length : Int) + 1) = (j : Int) := by
        rw [Int.tmod_eq_emod_of_nonneg (by omega)]; exact e1'
      have e2 : (x2 : Int).tmod 12 = (m : Int) := by rw [Int.tmod_eq_emod_of_nonneg (by omega)]; omega
      have e2' : (x2 : Int) % 12 = (m : Int) := by omega
      clear hown' hgrow hown hbw hPl hRl hup hur hsplit hk hoff hj hm hB HPT HPO
      go_wp2
      obtain ⟨w3, hw3⟩ : ∃ w3, w2.alloc (.cells #[.string ⟨#[0]⟩, .string ⟨#[10]⟩, .string ⟨#[31]⟩, .string ⟨#[127]⟩, .string ⟨#[255]⟩, .string ⟨#[128]⟩, .string ⟨#[192, 128]⟩, .string ⟨#[237, 160, 128]⟩, .string ⟨#[244, 144, 128, 128]⟩, .string ⟨#[226, 130]⟩, .string ⟨#[193, 191]⟩, .string ⟨#[248, 136, 128, 128, 128]⟩] 9) = w3 := ⟨_, rfl⟩
      have hcell3 : w3.cell? ⟨w2.heap.size, m, none⟩ = some (.string B) := by
        rw [← hw3, World.cell?_alloc_at _ _ _ _ rfl, ← HBB.out]
        have hm : m = 0 ∨ m = 1 ∨ m = 2 ∨ m = 3 ∨ m = 4 ∨ m = 5 ∨ m = 6 ∨ m = 7 ∨ m = 8 ∨ m = 9 ∨ m = 10 ∨ m = 11 := by omega
        rcases hm with rfl | rfl | rfl | rfl | rfl | rfl | rfl | rfl | rfl | rfl | rfl | rfl <;> rfl
      have HB3 : Hid (Below w.heap.size w w3) := by
        rw [← hw3]; exact HB2.out.alloc hnw2 _
      rw [hw3]
      clear hw3 HBB HB2 hcell
      have hTs : (P ++ B ++ R).size ≤ 300 := by rw [ByteArray.size_append, ByteArray.size_append]; omega
      have hLs : (P ++ ⟨#[113]⟩ ++ R).size ≤ 300 := by rw [ByteArray.size_append, ByteArray.size_append]; have : (⟨#[113]⟩ : ByteArray).size = 1 := rfl; omega
      have HTS := Lib.hid hTs
      have HLS := Lib.hid hLs
      clear hTs hLs
      go_quiet (fail)
      clear hcell3 e1 e1' e2 e2'
      go_wp2_with fail
      refine (quote_no _ _ (HE.out.below (below_drewN HB3.out _)) (by have := HTS.out; omega) HNT.out).mono ?_
      rintro e w4 ⟨rfl, hb4⟩
      have B4 := Lib.hid (bel2 (below_drewN HB3.out _) hb4)
      clear hb4 HB3
      go_wp2_with fail
      refine (width_no _ _ (HE.out.below B4.out) (by have := HTS.out; omega) HNT.out).mono ?_
      rintro e w5 ⟨rfl, hb5⟩
      have B5 := Lib.hid (bel2 B4.out hb5)
      clear hb5 B4
      go_wp2_with fail
      refine (cut_no _ _ _ (HE.out.below B5.out) (by have := HTS.out; omega) HNT.out).mono ?_
      rintro e w6 ⟨rfl, hb6⟩
      have B6 := Lib.hid (bel2 B5.out hb6)
      clear hb6 B5
      go_wp2_with fail
      refine (check_no _ _ (HE.out.below B6.out) (by have := HTS.out; omega) HNT.out).mono ?_
      rintro e w7 ⟨rfl, hb7⟩
      have B7 := Lib.hid (bel2 B6.out hb7)
      clear hb7 B6
      go_wp2_with fail
      refine (plain_no _ _ (HE.out.below B7.out) (by have := HTS.out; omega) HNT.out).mono ?_
      rintro e w8 ⟨rfl, hb8⟩
      have B8 := Lib.hid (bel2 B7.out hb8)
      clear hb8 B7
      go_wp2_with fail
      refine (cut_neg s rs (-1) _ (HE.out.below B8.out) HT.out (by omega)).mono ?_
      rintro e w9 ⟨rfl, hb9⟩
      have B9 := Lib.hid (bel2 B8.out hb9)
      clear hb9 B8
      rcases HLT.out with ⟨h23, ts, hts⟩ | ⟨h23, hts⟩
      · have HTT := Lib.hid hts
        have hd : decide ((rs.length : Int) < 24) = true := decide_eq_true (by omega)
        have HEd : Hid (Env w9.drew) := HE.out.below B9.out.drew
        clear hts HLT h23
        go_wp2
        go_region_with (first | (go_at_call 18; refine (check_tag _ ts _ HEd.out HTT.out).mono ?_; rintro e wa ⟨rfl, hba⟩) | (go_at_call 13; refine (works_ok _ (HEd.out.below hba)).mono ?_; rintro e wb ⟨rfl, hbb⟩))
        all_goals
          go_wp2
          go_ret
          exact ⟨rfl, bel2 (bel2 B9.out.drew hba) hbb⟩
      · have HTT := Lib.hid hts
        have hd : decide ((rs.length : Int) < 24) = false := decide_eq_false (by omega)
        have HEd : Hid (Env w9.drew) := HE.out.below B9.out.drew
        have HL3 : Hid ((P ++ ⟨#[113]⟩ ++ R).size ≤ 140737488351232) := by have := HLS.out; unfold Hid; omega
        clear hts HLT h23
        go_wp2
        go_region_with (first | (go_at_call 18; refine (check_no _ _ HEd.out HL3.out HTT.out).mono ?_; rintro e wa ⟨rfl, hba⟩) | (go_at_call 13; refine (works_ok _ (HEd.out.below hba)).mono ?_; rintro e wb ⟨rfl, hbb⟩))
        all_goals
          go_wp2
          go_ret
          exact ⟨rfl, bel2 (bel2 B9.out.drew hba) hbb⟩
    | cons r ts =>
      have hr : OkRune r := HU.out.1 r (by rw [HPT.out]; simp)
      have he1 : s.data.toList = ps.flatMap encR ++ (encR r ++ ts.flatMap encR) := by rw [HU.out.2, HPT.out]; simp
      have hdec := decode_at_enc s _ _ r hr he1
      rw [← HPO.out] at hdec
      have hlen := (encR_length r).1
      have hsz : po + (encR r).length ≤ s.size := by rw [HPO.out, Lib.size_eq, he1]; simp
      have hp : po < s.size := by omega
      have hnx0 : ∀ ty, (Instr.next (.pointer (some ⟨w1.heap.size, 0, none⟩)) true ty).run Tryd.prog wr = _ := fun ty => Lib.run_next_any_at wr w1.heap.size s _ ty hit hp
      rw [hdec] at hnx0
      have hit2 := Lib.iterAt_heap wr w1.heap.size s _ (po + (encR r).length) hit
      have hbw2 := Lib.below_iterAt hbw (k := w1.heap.size) (by omega) s (po + (encR r).length)
      have hsz2 : (wr.iterAt w1.heap.size s (po + (encR r).length)).heap.size = wr.heap.size := Lib.iterAt_size _ _ _ _
      have hm0 : wr.iterPos w1.heap.size = po := by simp only [World.iterPos, hit]
      have hpl2 : ps.length + 1 ≤ 24 := by have := h24; rw [HPT.out, List.length_append, List.length_cons] at this; omega
      have hpo2 : Hid (po + (encR r).length = ((ps ++ [r]).flatMap encR).length) := by unfold Hid; rw [HPO.out]; simp
      have hpt2 : Hid (rs = (ps ++ [r]) ++ ts) := by unfold Hid; rw [HPT.out]; simp
      have htk : rs.take ps.length = ps := by rw [HPT.out, List.take_left]
      have hoff : Hid (ints (offs rs ps.length) ++ [.int .i64 (po : Int)] = ints (offs rs (ps.length + 1))) := by
        unfold Hid; rw [ints_snoc, offs_succ, htk, HPO.out]
      have hown2 := own_iterAt hown hit (po + (encR r).length)
      have HM := Lib.hid hm0
      clear hdec he1 hm0 htk hown
      generalize wr.iterAt w1.heap.size s (po + (encR r).length) = w5 at *
      have hmeas : Hid (s.size - (po + (encR r).length) < s.size - wr.iterPos w1.heap.size) := by
        unfold Hid; rw [HM.out]; omega
      have hnw5 : w.heap.size ≤ w5.heap.size := by omega
      have hk5 : w1.heap.size < w5.heap.size := by omega
      clear hsz2
      go_wp2_with (at_builtin; refine wpList_append_own _ rfl _ _ 38 rfl w.heap.size 3 i0 (.int .i64 0) 1 8 Tryd.underlying38 hi hz0 hz1 hz2 rfl (by decide) _ _ _ rfl (hown2.alloc _) ⟨w5.heap.size, 0, none⟩ 1 1 [.int .i64 po] rfl rfl ?d1 ?d2 ?d3 ?d4 ?d5 ?_)
      case d2 => first | rfl | (intro u hu; simp at hu; subst hu; rfl)
      case d3 => first | (unfold maxLen; omega) | omega
      case d4 => omega
      case d5 => first | omega | (simp; omega)
      intro v' w2 hown' hgrow _
      have hbw3 : Below w.heap.size w w2 := (hbw2.alloc hnw5 _).grown hgrow (by simp; omega) (fun k hk => (World.ownsRow.lt hown2 k hk).1)
      have hsz3 : w5.heap.size + 1 ≤ w2.heap.size := by have := hgrow.size; simpa using this
      have hit3 : w2.heap[w1.heap.size]? = some (.stringIter s (po + (encR r).length)) := by
        rw [hgrow.block w1.heap.size (by simp; omega) (fun e => own_not_iter hown2 hit2 e.symm), Below.heap_alloc _ _ _ hk5]
        exact hit2
      rw [hoff.out] at hown'
      have HOWN := Lib.hid hown'
      clear hown' hgrow hown2 hit2 hbw2
      go_wp2
      go_roundw
      case rel => exact ⟨ps ++ [r], ts, po + (encR r).length, hpt2, hpo2, by simpa using hpl2, by simpa using HOWN.out, hbw3, hit3, by omega, by omega⟩
      case measure =>
        have hh : w2.iterPos w1.heap.size = po + (encR r).length := by simp only [World.iterPos, hit3]
        rw [hh]; exact hmeas.out

set_option maxRecDepth 100000 in
set_option maxHeartbeats 1000000 in
theorem refs_walk (s : ByteArray) (x1 x2 : Int) (w : World) (hs : s.size ≤ 140737488351232) (h1 : 0 ≤ x1) (h1' : x1 ≤ 255) (h2 : 0 ≤ x2) (h2' : x2 ≤ 255) (he : Env w) :
    Calls Tryd.prog 11 #[.string s, .int .u8 x1, .int .u8 x2] w fun e w' => e = .returned (.bool true) ∧ Below w.heap.size w w' := by
  have hnil : NoTag (⟨#[]⟩ : ByteArray).data.toList := fun rs h => by have := (tag_len h).1; simp at this
  have HNIL := Lib.hid hnil
  clear hnil
  by_cases hl : 500 < s.size
  · go_enter Tryd.func11, Tryd.ntmps11
    go_wp2_with fail
    refine (check_no ⟨#[]⟩ _ he (by decide) HNIL.out).mono ?_
    rintro e w1 ⟨rfl, hb1⟩
    go_wp2_with fail
    refine (works_ok _ (he.below hb1)).mono ?_
    rintro e w2 ⟨rfl, hb2⟩
    go_wp2
    go_ret
    exact ⟨rfl, bel2 hb1 hb2⟩
  rcases tag_dec s.data.toList with ⟨rs, ht⟩ | ht
  · obtain ⟨n1, rfl⟩ : ∃ n : Nat, x1 = (n : Int) := ⟨x1.toNat, by omega⟩
    obtain ⟨n2, rfl⟩ : ∃ n : Nat, x2 = (n : Int) := ⟨x2.toNat, by omega⟩
    exact refs_tag s rs n1 n2 _ _ w he ht (by omega) (by omega) rfl rfl
  · have HN := Lib.hid ht
    clear ht
    go_enter Tryd.func11, Tryd.ntmps11
    go_wp2_with fail
    refine (check_no s _ he (by omega) HN.out).mono ?_
    rintro e w1 ⟨rfl, hb1⟩
    go_wp2_with fail
    refine (check_no ⟨#[]⟩ _ (he.below hb1) (by decide) HNIL.out).mono ?_
    rintro e w2 ⟨rfl, hb2⟩
    have B2 := Lib.hid (bel2 hb1 hb2)
    clear hb2
    go_wp2_with fail
    refine (works_ok _ (he.below B2.out)).mono ?_
    rintro e w3 ⟨rfl, hb3⟩
    go_wp2
    go_ret
    exact ⟨rfl, bel2 B2.out hb3⟩
end Go.Proofs.YtmgkdklpahggjaaDoor
