/- LedgerReads gives true: the walk. -/
import Derived.Test.YtenggngcigkakaaGreatDoorKc
namespace Go.Proofs.YtenggngcigkakaaGreatDoor
open Go.RowKit Go.ChangeShapes

set_option maxRecDepth 100000 in
set_option maxHeartbeats 8000000 in
theorem lRea_walk (s : ByteArray) (w : World) (_ : s.size ≤ 140737488351232) (he : EnvL w) :
    Calls Tryz.prog 5 #[.string s] w fun e w' => e = .returned (.bool true) ∧ Below w.heap.size w w' := by
  have HE := Lib.hid he
  by_cases hlong : 3000 < s.size
  · clear he
    go_enter Tryz.func5, Tryz.ntmps5
    go_wp2_with fail
    refine (works_ok _ HE.out).mono ?_
    rintro e w5 ⟨rfl, hb5⟩
    have HB5 := Lib.hid hb5
    clear hb5
    go_wp2
    go_ret
    exact ⟨rfl, HB5.out⟩
  · have HP : Hid (∀ W, EnvL W → Calls Tryz.prog 37 #[.string s] W (ParseV s.data.toList W)) := fun W hW => by
      have := lparse_ok s.data.toList (by rw [← Lib.size_eq]; omega) W hW
      rw [bstr_of] at this
      exact this
    have HQ : Hid (∀ W, Calls Tryz.prog 38 #[.string s] W (ParseV s.data.toList W)) := fun W => rparse_ok s (by omega) W
    have HL : Hid (s.data.toList.length ≤ 3000) := by rw [Hid, ← Lib.size_eq]; omega
    clear he
    generalize s.data.toList = l at *
    go_enter Tryz.func5, Tryz.ntmps5
    go_wp2_with fail
    refine (HP.out _ HE.out).mono ?_
    rintro e w1 ⟨ys, r, hP, hb1, hcase⟩
    have HB1 := Lib.hid hb1
    have HP1 := Lib.hid hP
    have hM : ys.length ≤ 3000 := by
      have h1 := (lines_size hP.ok).1
      have h2 := HL.out
      rw [hP.eq, List.length_append] at h2
      omega
    clear hb1 hP
    rcases hcase with ⟨rfl, v, rfl, ho⟩ | ⟨hne, rfl⟩
    · obtain ⟨p1, n1, c1, rfl⟩ : ∃ p n c, v = .slice p n c := by obtain ⟨q, k, h⟩ := rd_slice (RdA.of_own ho); exact ⟨_, _, _, h⟩
      have HR1 := Lib.hid (RdA.of_own ho)
      clear ho
      go_wp2_with fail
      refine (HQ.out _).mono ?_
      rintro e w2 ⟨ys2, r2, hP2, hb2, hcase⟩
      obtain ⟨h1, h2⟩ := hP2.uniq HP1.out
      subst h1 h2
      have HB2 := Lib.hid (bel2 HB1.out hb2)
      have HR2 := Lib.hid (HR1.out.below hb2)
      clear hb2 hP2
      rcases hcase with ⟨_, v, rfl, ho⟩ | ⟨hne, _⟩
      · obtain ⟨p2, n2, c2, rfl⟩ : ∃ p n c, v = .slice p n c := by obtain ⟨q, k, h⟩ := rd_slice (RdA.of_own ho); exact ⟨_, _, _, h⟩
        have HQ2 := Lib.hid (RdA.of_own ho)
        clear ho
        go_wp2_with fail
        refine (equal_yes _ _ _ _ _ _ ys2 _ HR2.out HQ2.out).mono ?_
        rintro e w5 ⟨rfl, hb5⟩
        have HB5 := Lib.hid (bel2 HB2.out hb5)
        clear hb5
        go_wp2_with fail
        refine (works_ok _ (HE.out.below HB5.out)).mono ?_
        rintro e w6 ⟨rfl, hb6⟩
        have HB6 := Lib.hid (bel2 HB5.out hb6)
        clear hb6
        go_wp2
        go_ret
        exact ⟨rfl, HB6.out⟩
      · exact absurd rfl hne
    · go_wp2_with fail
      refine (HQ.out _).mono ?_
      rintro e w2 ⟨ys2, r2, hP2, hb2, hcase⟩
      obtain ⟨h1, h2⟩ := hP2.uniq HP1.out
      subst h1 h2
      have HB2 := Lib.hid (bel2 HB1.out hb2)
      have HNE := Lib.hid hne
      clear hb2 hP2 hne
      rcases hcase with ⟨he0, _⟩ | ⟨_, rfl⟩
      · exact absurd he0 HNE.out
      · go_wp2_with fail
        refine (equal_yes _ _ _ _ _ _ [] _ (RdA.nil _) (RdA.nil _)).mono ?_
        rintro e w5 ⟨rfl, hb5⟩
        have HB5 := Lib.hid (bel2 HB2.out hb5)
        clear hb5
        go_wp2_with fail
        refine (works_ok _ (HE.out.below HB5.out)).mono ?_
        rintro e w6 ⟨rfl, hb6⟩
        have HB6 := Lib.hid (bel2 HB5.out hb6)
        clear hb6
        go_wp2
        go_ret
        exact ⟨rfl, HB6.out⟩
end Go.Proofs.YtenggngcigkakaaGreatDoor
