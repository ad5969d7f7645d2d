/- The walk of the statement AnswerKeeps where the slice of letters is nil: it returns true for all letters, places, bytes and numbers; at most 200 letters. -/
import Derived.Test.YtpgokoeedmipeaaDoorLAKe0
namespace Go.Proofs.YtpgokoeedmipeaaDoor
open Go.RowKit

set_option maxRecDepth 100000 in
set_option maxHeartbeats 16000000 in
theorem aKee_nil (a : Option Addr) (n c : Nat) (l : List Int) (at_ o : Int) (m : Int) (w : World) (hl : l.length ≤ 200) (hu : U8 w a n c l) (h0 : 0 ≤ at_) (h1 : at_ ≤ 255) (h2 : 0 ≤ o) (h3 : o ≤ 255) (he : Env w) (K : Nat) (hK : at_ % ((l.length : Int) + 1) = K) (hcase : a = none) :
    Calls Tryd.prog 3 #[.slice a n c, .int .u8 at_, .int .u8 o, .int .i64 m] w fun e w' => e = .returned (.bool true) ∧ Below w.heap.size w w' := by
  obtain rfl := hu.len
  have HE := Lib.hid he
  have HU := Lib.hid hu
  obtain ⟨A, hA⟩ : ∃ A, ans_ l = A := ⟨_, rfl⟩
  have hAl : A.length = l.length := by rw [← hA, ans_length]
  obtain ⟨sl, hsl0⟩ : ∃ sl, str (text (ans_ l)) = sl := ⟨_, rfl⟩
  have HSL := Lib.hid hsl0
  have hE0 : aE [] (text (ans_ l)) = 0 := aE_ok (pE_let l (by omega)) (by rw [text_length, ans_length]; simp; omega)
  have hL0 : aL [] (text (ans_ l)) = A := by rw [aL_ok hE0, nums_text (ans_ok l), hA]; rfl
  have HA := Lib.hid (And.intro hE0 (And.intro hL0 (And.intro hA hAl)))
  have hKl : K ≤ l.length := by have := Int.emod_lt_of_pos at_ (show (0 : Int) < (l.length : Int) + 1 by omega); omega
  have hK1 : at_.tmod ((l.length : Int) + 1) = K := by rw [Int.tmod_eq_emod_of_nonneg h0]; exact hK
  have HCASE := Lib.hid hcase
  clear he hu hsl0 hE0 hL0 hA hAl hcase
  go_enter Tryd.func3, Tryd.ntmps3
  go_wp2_with fail
  refine (St.new HE.out).mono ?_
  rintro e w1 ⟨b, rfl, k1⟩
  have H1 := Lib.hid k1
  clear k1
  go_wp2_with fail
  refine (let_str a _ c l _ (HU.out.below H1.out.bel) (by omega) HSL.out).mono ?_
  rintro e w2 ⟨rfl, hb2⟩
  have H2 := Lib.hid (H1.out.below hb2)
  clear hb2 H1
  go_wp2_with fail
  refine (H2.out.add sl (data_let HSL.out) (by rw [size_let HSL.out]; omega) HA.out.1 HA.out.2.1).mono ?_
  rintro e w3 ⟨rfl, k3, _⟩
  have H3 := Lib.hid k3
  clear k3 H2
  go_wp2_with fail
  refine (copy_ok b A _ H3.out.s).mono ?_
  rintro e w4 ⟨d, k4, rfl, k5, k6⟩
  have H4 : Hid (KSt w w4 b d A A) := by
    have hbl := H3.out.s.lt
    have hlo := H3.out.lo
    exact ⟨HE.out, H3.out.s.below k6, k5, by omega, bel2 H3.out.bel k6, hlo, by omega⟩
  clear k4 k5 k6 H3
  go_upto_region 8 with fail
  obtain ⟨ob, hob⟩ : ∃ ob : UInt8, (ob.toNat : Int) = o := ⟨UInt8.ofNat o.toNat, by
    have : (UInt8.ofNat o.toNat).toNat = o.toNat := by simp [UInt8.toNat_ofNat']; omega
    omega⟩
  obtain ⟨s1, hs1⟩ : ∃ s, str (text (ans_ (l.take K))) = s := ⟨_, rfl⟩
  obtain ⟨s2, hs2⟩ : ∃ s, str (text (ans_ (l.drop K))) = s := ⟨_, rfl⟩
  have hz1 : s1.size = K := by rw [size_let hs1, List.length_take]; omega
  have hz2 : s2.size = l.length - K := by rw [size_let hs2, List.length_drop]
  have hcv : ∀ (W : World) (p : Nat), W.cell? ⟨p, 0, none⟩ = some (.int .u8 o) → (convert 22 9 (.slice (some ⟨p, 0, none⟩) 1 1)).run Tryd.prog W = .ok (.string (str [ob])) W := fun W p h => conv_one W p ob (by rw [hob]; exact h)
  have hcap := HU.out.r.cap
  have HC1 : Hid (∀ W : World, Below w4.heap.size w4 W → Calls Tryd.prog 7 #[.slice a K c] W fun e w' => e = .returned (.string s1) ∧ Below W.heap.size W w') := fun W hW =>
    let_str a K c (l.take K) W ⟨((HU.out.r.below H4.out.bel).below hW).take hKl, fun x hx => HU.out.b x (List.mem_of_mem_take hx)⟩ (by rw [List.length_take]; omega) hs1
  have hzb : (str [ob]).size = 1 := str_size _
  generalize hsb : str [ob] = sb at *
  have HFACT := Lib.hid (And.intro hs1 (And.intro hs2 hsb))
  go_cut [12] from 36 to 48 (fun v wx => v = .string (s1 ++ sb ++ s2) ∧ Below w4.heap.size w4 wx)
  case first =>
    have hn1 : ¬ c < K := by omega
    cases a with
    | some a0 => cases HCASE.out
    | none =>
      clear HCASE
      have hc0 := hcap.2.2.2 rfl
      subst hc0
      obtain rfl : K = 0 := by omega
      have hl0 : l.length = 0 := by omega
      have hd0 : l.drop 0 = [] := by rw [List.drop_zero]; exact List.eq_nil_of_length_eq_zero hl0
      have HC2 : Hid (∀ W : World, Below w4.heap.size w4 W → Calls Tryd.prog 7 #[.slice none 0 0] W fun e w' => e = .returned (.string s2) ∧ Below W.heap.size W w') := fun W _ =>
        let_str none 0 0 [] W (U8.nil W none 0 (by omega) (fun _ => rfl)) (by simp) (by rw [← hs2, hd0])
      clear hs1 hs2 hsb hd0 hl0
      have B0 : Below w4.heap.size w4 w4.drew := bel_drew (Below.refl _ _)
      go_region_with (first
        | (go_at_call 7; (with_reducible refine at_sl none 0 0 ?_); refine (HC2.out _ (by first | exact B1 | exact bal B1 _)).mono ?_; rintro e x2 ⟨rfl, hb2⟩; have B2 : Below w4.heap.size w4 x2 := bel2 (by first | exact B1 | exact bal B1 _) hb2; (try have hk2 : x2.cell? ⟨w4.heap.size, 0, none⟩ = some (.int .u8 o) := cell_stays hb2 hk1); (try have hk3 : x2.cell? ⟨x1.heap.size, 0, none⟩ = some (.int .u8 o) := cell_stays hb2 (tmp_cell x1 o)); clear hb2)
        | (go_at_call 7; (with_reducible refine at_sl none 0 0 ?_); refine (HC1.out _ (by first | exact B0 | exact bal B0 _)).mono ?_; rintro e x1 ⟨rfl, hb1⟩; have B1 : Below w4.heap.size w4 x1 := bel2 (by first | exact B0 | exact bal B0 _) hb1; (try have hk1 : x1.cell? ⟨w4.heap.size, 0, none⟩ = some (.int .u8 o) := cell_stays hb1 (tmp_cell w4 o)); clear hb1))
      all_goals
        go_simp
        go_wp2_with fail
        go_meet
        refine ⟨?_, by first | exact B2 | exact bal B2 _⟩
        first | rfl | (simp; done)
  case rest =>
    obtain ⟨rfl, hB5⟩ := hcut
    have H5 := Lib.hid (H4.out.below hB5)
    clear hB5 HC1 hcv H4
    obtain ⟨sbad, hsbad⟩ : ∃ s, s1 ++ sb ++ s2 = s := ⟨_, rfl⟩
    have hdata : sbad.data.toList = text (ans_ (l.take K)) ++ [ob] ++ text (ans_ (l.drop K)) := by
      rw [← hsbad, ← hs1, ← hs2, ← hsb, str_append, str_append]; rfl
    have hzbad : sbad.size ≤ 1000 := by
      rw [size_data, hdata]
      simp only [List.length_append, text_length, ans_length, List.length_take, List.length_drop, List.length_singleton]
      omega
    rw [hsbad]
    obtain ⟨bs, hbs⟩ : ∃ bs, text (ans_ (l.take K)) ++ [ob] ++ text (ans_ (l.drop K)) = bs := ⟨_, rfl⟩
    have hbl : bs.length = l.length + 1 := by
      rw [← hbs]
      simp only [List.length_append, text_length, ans_length, List.length_take, List.length_drop, List.length_singleton]
      omega
    have hgood : Good bs ↔ num ob.toNat ≠ 0 := by
      rw [← hbs, good_append, good_append]
      constructor
      · intro h; exact h.1.2 ob (by simp)
      · intro h; exact ⟨⟨good_text (ans_ok _), fun x hx => by rw [List.mem_singleton.1 hx]; exact h⟩, good_text (ans_ok _)⟩
    rw [hbs] at hdata
    obtain ⟨G, hG⟩ : ∃ G, decide (num ob.toNat ≠ 0) = G := ⟨_, rfl⟩
    have hAl := HA.out.2.2.2
    obtain ⟨E, hE⟩ : ∃ E, aE A bs = E := ⟨_, rfl⟩
    obtain ⟨R, hR⟩ : ∃ R : List Int, aL A bs = A ++ R ∧ R.length = if G then l.length + 1 else 0 := by
      cases G with
      | true =>
        have hn : num ob.toNat ≠ 0 := of_decide_eq_true hG
        have he : aE A bs = 0 := aE_ok (pE_ok (by omega) (hgood.2 hn)) (by omega)
        exact ⟨nums bs, by rw [aL_ok he], by rw [nums_length, hbl]; rfl⟩
      | false =>
        have hn : ¬ num ob.toNat ≠ 0 := of_decide_eq_false hG
        have hp : pE bs = 9 := pE_form (by omega) (fun h => hn (hgood.1 h))
        have he : aE A bs = 9 := by rw [aE_parse (by rw [hp]; decide), hp]
        exact ⟨[], by rw [aL_no (by rw [he]; decide), List.append_nil], rfl⟩
    have heq : ((E : Int) == 0) = G := by
      rw [← hE]
      cases G with
      | true =>
        have hn : num ob.toNat ≠ 0 := of_decide_eq_true hG
        rw [aE_ok (pE_ok (by omega) (hgood.2 hn)) (by omega)]; rfl
      | false =>
        have hn : ¬ num ob.toNat ≠ 0 := of_decide_eq_false hG
        have hp : pE bs = 9 := pE_form (by omega) (fun h => hn (hgood.1 h))
        rw [aE_parse (by rw [hp]; decide), hp]; rfl
    have hgo : G = (decide (o = 111) || (decide (o = 108) || decide (o = 102))) := by
      rw [← hG]
      have ho : o = (ob.toNat : Int) := hob.symm
      by_cases c1 : ob.toNat = 111
      · rw [c1] at ho ⊢; subst ho; decide
      by_cases c2 : ob.toNat = 108
      · rw [c2] at ho ⊢; subst ho; decide
      by_cases c3 : ob.toNat = 102
      · rw [c3] at ho ⊢; subst ho; decide
      · rw [num_no c1 c2 c3, decide_eq_false (show ¬ o = 111 by omega), decide_eq_false (show ¬ o = 108 by omega), decide_eq_false (show ¬ o = 102 by omega)]; rfl
    have HGO := Lib.hid hgo
    have HADD := Lib.hid (And.intro hdata (And.intro hE hR))
    have HR2 := Lib.hid hR.2
    have hGG : (G != G) = false := by simp
    clear hs1 hs2 hsb hsbad hbs hgood hdata hG hE hR hgo HFACT hz1 hz2 hzb hbl hob hK hK1
    go_upto_region 9 with fail
    go_cut [13] from 49 to 58 (fun v wx => v = .bool G ∧ wx = wc)
    case first =>
      by_cases c1 : o = 111
      · have hg : G = true := by rw [HGO.out, c1]; rfl
        subst c1
        go_wp2_with fail
        go_meet
        exact ⟨by rw [hg], rfl⟩
      by_cases c2 : o = 108
      · have hg : G = true := by rw [HGO.out, c2]; rfl
        subst c2
        go_wp2_with fail
        go_meet
        exact ⟨by rw [hg], rfl⟩
      have n1 : (o == 111) = false := by simpa using c1
      have n2 : (o == 108) = false := by simpa using c2
      by_cases c3 : o = 102
      · have hg : G = true := by rw [HGO.out, c3]; rfl
        subst c3
        go_wp2_with fail
        go_meet
        exact ⟨by rw [hg], rfl⟩
      have n3 : (o == 102) = false := by simpa using c3
      have hg : G = false := by rw [HGO.out, decide_eq_false c1, decide_eq_false c2, decide_eq_false c3]; rfl
      go_wp2_with fail
      go_meet
      exact ⟨by rw [hg], rfl⟩
    case rest =>
      obtain ⟨rfl, rfl⟩ := hcut
      go_wp2_with fail
      refine (H5.out.swap.add sbad HADD.out.1 (by omega) HADD.out.2.1 HADD.out.2.2.1).mono ?_
      rintro e w6 ⟨rfl, k6⟩
      have H6 := Lib.hid k6.swap
      clear k6 H5
      go_wp2_with fail
      refine (peek_ok b m A _ H6.out.s).mono ?_
      rintro e w7 ⟨v, rfl, hown, hb7⟩
      obtain ⟨q, hq⟩ : ∃ q, (A.take m.toNat).length = q := ⟨_, rfl⟩
      have hq2 : q = min m.toNat l.length := by rw [← hq, List.length_take, HA.out.2.2.2]
      have hsl := Sl.of_own hown
      obtain ⟨ap, cp, rfl, hsl2⟩ := hsl.len
      rw [hq] at hown hsl2 ⊢
      have HP0 : Hid (0 < q → ∃ g cur, ap = some ⟨g, 0, none⟩ ∧ w6.heap.size ≤ g ∧ Bk w7 g 3 cur ∧ q ≤ cur.size) := fun h0 => by
        rcases hown.2 with ⟨_, e0⟩ | ⟨g, cap, cur, e, h1, h2, h3, h4, h5, _⟩
        · omega
        · injection e with e1 e2 e3
          exact ⟨g, cur, e1, h1, h2, by omega⟩
      have HB7 := Lib.hid hb7
      have HQ2 := Lib.hid hq2
      clear hown hb7 hq hsl hsl2 hq2
      go_upto_region 13 with fail
      go_cut [91] from 72 to 90 (fun v wx => v = .bool false ∧ wx = w7)
      case first =>
        rcases (show m < 1 ∨ (1 ≤ m ∧ m < (l.length : Int)) ∨ (1 ≤ m ∧ m = (l.length : Int)) ∨ (1 ≤ m ∧ (l.length : Int) < m) by omega) with hm1 | ⟨hge, hml⟩ | ⟨hge, hml⟩ | ⟨hge, hml⟩
        · have hq0 : ((q : Int) != 0) = false := by have h' := HQ2.out; simp; omega
          have hge : ¬ 1 ≤ m := by omega
          go_wp2_with fail
          go_meet
          exact ⟨rfl, rfl⟩
        · go_wp2_with fail
          go_meet
          exact ⟨by have h' := HQ2.out; congr 1; simp; omega, rfl⟩
        · subst hml
          have hqm : ((q : Int) != (l.length : Int)) = false := by have h' := HQ2.out; simp; omega
          go_wp2_with fail
          go_meet
          exact ⟨rfl, rfl⟩
        · go_wp2_with fail
          go_meet
          exact ⟨by have h' := HQ2.out; congr 1; simp; omega, rfl⟩
      case rest =>
      obtain ⟨rfl, rfl⟩ := hcut
      have hq200 : q ≤ 200 := by have h' := HQ2.out; omega
      go_wp2
      go_loopw [15] (fun i wr => ∃ j : Nat, j ≤ q ∧ i = .int .i64 j ∧ Hid (Below w6.heap.size w6 wr) ∧ Hid (0 < q → ∃ g cur, ap = some ⟨g, 0, none⟩ ∧ w6.heap.size ≤ g ∧ Bk wr g 3 cur ∧ q ≤ cur.size)) (fun i _ => q - (intOf i).toNat)
      case atStart => exact ⟨0, Nat.zero_le _, rfl, HB7.out, HP0.out⟩
      case round =>
      clear HB7 HP0
      obtain ⟨j, hj, rfl, HB7, HP⟩ := hrel
      by_cases hjq : j < q
      · obtain ⟨g, cur, rfl, hg, hbk, hcs⟩ := HP.out (by omega)
        have hc : wr.cell? ⟨g, j, none⟩ = some cur[j] := by rw [hbk.cell]; exact Array.getElem?_eq_getElem (by omega)
        have hf := hbk.frozen j
        have HB8 := Lib.hid (HB7.out.setCell (p := ⟨g, j, none⟩) hg (.int .i64 9))
        have HP8 : Hid (0 < q → ∃ g' cur, (some (⟨g, 0, none⟩ : Addr)) = some ⟨g', 0, none⟩ ∧ w6.heap.size ≤ g' ∧ Bk (wr.setCell ⟨g, j, none⟩ (.int .i64 9)) g' 3 cur ∧ q ≤ cur.size) := fun _ => ⟨g, _, rfl, hg, hbk.put j _, by simpa using hcs⟩
        generalize cur[j] = u at *
        clear hbk HP
        go_wp2
        go_roundw
        case rel => exact ⟨j + 1, by omega, by go_num, HB8.out, HP8.out⟩
        case measure => simp [intOf]; omega
      obtain rfl : j = q := by omega
      have H8 := Lib.hid (H6.out.below HB7.out)
      clear HB7 HP H6 hjq
      go_upto_region 19 with fail
      go_cut [121] from 101 to 120 (fun v wx => v = .bool false ∧ wx = wr)
      case first =>
        cases G with
        | true =>
          go_wp2_with fail
          refine (H8.out.swap.left (n := 2 * l.length + 1) (by rw [List.length_append, HR2.out, HA.out.2.2.2]; simp; omega)).mono ?_
          rintro e w' ⟨rfl, rfl⟩
          have hne : (2 * (l.length : Int) + 1 != 2 * (l.length : Int) + 1) = false := by simp
          go_wp2_with fail
          go_meet
          exact ⟨rfl, rfl⟩
        | false =>
          go_wp2_with fail
          refine (H8.out.swap.left (n := l.length) (by rw [List.length_append, HR2.out, HA.out.2.2.2]; simp)).mono ?_
          rintro e w' ⟨rfl, rfl⟩
          have hne : ((l.length : Int) != (l.length : Int)) = false := by simp
          go_wp2_with fail
          go_meet
          exact ⟨rfl, rfl⟩
      case rest =>
      obtain ⟨rfl, rfl⟩ := hcut
      go_wp2
      go_loopw [16] (fun i wr => ∃ k : Nat, k ≤ l.length ∧ i = .int .i64 k ∧ Hid (KSt w wr b d A ((A ++ R).drop k))) (fun i _ => l.length - (intOf i).toNat)
      case atStart => exact ⟨0, Nat.zero_le _, rfl, H8.out⟩
      case round =>
        clear H8
        obtain ⟨k, hk, rfl, HS⟩ := hrel
        by_cases hlt : k < l.length
        · obtain ⟨g, off, rfl, hg, hcw⟩ := HU.out.r.cell hlt
          obtain ⟨hx0, hx1⟩ := HU.out.b l[k] (List.getElem_mem hlt)
          have hhd : ((A ++ R).drop k).headD 1 = 1 + l[k] % 3 := drop_hd (by rw [List.getElem?_append_left (by rw [HA.out.2.2.2]; exact hlt), ← HA.out.2.2.1]; exact ans_at l k hlt)
          have htl : ((A ++ R).drop k).tail = (A ++ R).drop (k + 1) := List.tail_drop
          generalize l[k] = x at *
          obtain ⟨y, hy⟩ : ∃ y, x % 3 = y := ⟨_, rfl⟩
          have hy1 : x.tmod 3 = y := by rw [Int.tmod_eq_emod_of_nonneg hx0]; exact hy
          have hyr : 0 ≤ y ∧ y ≤ 2 := by omega
          rw [hy] at hhd
          have HT := Lib.hid (And.intro hhd htl)
          have hw1 : IntKind.u8.wrap y = y := by rw [IntKind.wrap_u8]; omega
          have hw2 : IntKind.i64.wrap y = y := by rw [IntKind.wrap_i64]; omega
          have hw3 : IntKind.i64.wrap (1 + y) = 1 + y := by rw [IntKind.wrap_i64]; omega
          have hyy : (1 + y != 1 + y) = false := by simp
          have HCW := Lib.hid hcw
          have hz0 := cell_stays HS.out.bel hcw
          clear hhd htl hyr hcw
          go_wp2
          go_region_held3 (fun W => W.cell? ⟨g, off + k, none⟩ = some (.int .u8 x)) (first | exact hz0 | exact hz1)
            (first | (go_at_call 11; refine ((HS.out.same (by rfl) (by rfl) (by rfl) (by rfl)).swap.next HT.out.1 HT.out.2).mono ?_; rintro e W2 ⟨rfl, k5⟩; have HS5 := Lib.hid k5.swap; have hz1 := cell_stays k5.bel HCW.out))
          all_goals
            go_wp2
            go_roundw
            case rel => exact ⟨k + 1, by omega, by go_num, HS5.out⟩
            case measure => simp [intOf]; omega
        · obtain rfl : k = l.length := by omega
          clear hlt
          go_wp2
          go_loopw [17] (fun i wr => ∃ k : Nat, k ≤ l.length ∧ i = .int .i64 k ∧ Hid (KSt w wr b d (A.drop k) ((A ++ R).drop l.length))) (fun i _ => l.length - (intOf i).toNat)
          case atStart => exact ⟨0, Nat.zero_le _, rfl, HS.out⟩
          case round =>
            clear HS
            obtain ⟨k, hk, rfl, HS⟩ := hrel
            by_cases hlt : k < l.length
            · obtain ⟨g, off, rfl, hg, hcw⟩ := HU.out.r.cell hlt
              obtain ⟨hx0, hx1⟩ := HU.out.b l[k] (List.getElem_mem hlt)
              have hhd : (A.drop k).headD 1 = 1 + l[k] % 3 := drop_hd (by rw [← HA.out.2.2.1]; exact ans_at l k hlt)
              have htl : (A.drop k).tail = A.drop (k + 1) := List.tail_drop
              generalize l[k] = x at *
              obtain ⟨y, hy⟩ : ∃ y, x % 3 = y := ⟨_, rfl⟩
              have hy1 : x.tmod 3 = y := by rw [Int.tmod_eq_emod_of_nonneg hx0]; exact hy
              have hyr : 0 ≤ y ∧ y ≤ 2 := by omega
              rw [hy] at hhd
              have HT := Lib.hid (And.intro hhd htl)
              have hw1 : IntKind.u8.wrap y = y := by rw [IntKind.wrap_u8]; omega
              have hw2 : IntKind.i64.wrap y = y := by rw [IntKind.wrap_i64]; omega
              have hw3 : IntKind.i64.wrap (1 + y) = 1 + y := by rw [IntKind.wrap_i64]; omega
              have hyy : (1 + y != 1 + y) = false := by simp
              have HCW := Lib.hid hcw
              have hz0 := cell_stays HS.out.bel hcw
              clear hhd htl hyr hcw
              go_wp2
              go_region_held3 (fun W => W.cell? ⟨g, off + k, none⟩ = some (.int .u8 x)) (first | exact hz0 | exact hz1)
                (first | (go_at_call 11; refine ((HS.out.same (by rfl) (by rfl) (by rfl) (by rfl)).next HT.out.1 HT.out.2).mono ?_; rintro e W2 ⟨rfl, k5⟩; have HS5 := Lib.hid k5; have hz1 := cell_stays k5.bel HCW.out))
              all_goals
                go_wp2
                go_roundw
                case rel => exact ⟨k + 1, by omega, by go_num, HS5.out⟩
                case measure => simp [intOf]; omega
            · obtain rfl : k = l.length := by omega
              clear hlt
              go_wp2_with fail
              refine (HS.out.left (n := 0) (by rw [List.length_drop]; omega)).mono ?_
              rintro e w' ⟨rfl, rfl⟩
              go_wp2_with fail
              refine (works_ok _ HS.out.e).mono ?_
              rintro e w7 ⟨rfl, hb7⟩
              go_wp2
              go_ret
              exact ⟨rfl, bel2 HS.out.bel hb7⟩


end Go.Proofs.YtpgokoeedmipeaaDoor
