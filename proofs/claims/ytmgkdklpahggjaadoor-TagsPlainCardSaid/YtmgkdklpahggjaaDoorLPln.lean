/- The walk of the statement TagsPlain: it returns true for all numbers, bytes and places. -/
import Derived.Test.YtmgkdklpahggjaaDoorRp
import Derived.Test.YtmgkdklpahggjaaDoorRh
namespace Go.Proofs.YtmgkdklpahggjaaDoor
open Go.RowKit

theorem ownB_form {n : Nat} {w : World} {v : Value} {l : List UInt8} (h : OwnB n w v l) (hn : 0 < l.length) : ∃ g cap, v = .slice (some ⟨g, 0, none⟩) l.length cap ∧ n ≤ g ∧ g < w.heap.size := by
  rcases h.2 with ⟨_, h0⟩ | ⟨g, cap, cur, hv, hg, hh, _⟩
  · omega
  · exact ⟨g, cap, hv, hg, (Array.getElem?_eq_some_iff.1 hh).1⟩
def PlRel (c : Nat → Nat) (len n : Nat) (w : World) (v i : Value) (wr : World) : Prop :=
  ∃ k : Nat, k ≤ len ∧ k ≤ 24 ∧ i = .int .i64 k ∧ Hid (OwnB n wr v (bl c k)) ∧ Below n w wr ∧ n ≤ wr.heap.size
def LtRel (o : UInt8) (i v : Value) : Prop := ∃ (k : Nat) (p : Bool), k ≤ 39 ∧ v = .int .i64 k ∧ i = .bool p ∧ Hid (p = decide (o ∈ letB.take k))

set_option maxRecDepth 100000 in
set_option maxHeartbeats 1000000 in
theorem pln_nil (a : Option Addr) (cap o t : Nat) (w : World) (he : Env w) :
    Calls Tryd.prog 12 #[.slice a 0 cap, .int .u8 o, .int .u8 t] w fun e w' => e = .returned (.bool true) ∧ Below w.heap.size w w' := by
  have hnil : NoTag (⟨#[]⟩ : ByteArray).data.toList := fun rs h => by have := (tag_len h).1; simp at this
  have HNIL := Lib.hid hnil
  have hcv : ∀ W : World, (convert 40 9 (.slice none 0 0)).run Tryd.prog W = .ok (.string ⟨#[]⟩) W := fun W => OwnB.conv (n := 0) (l := []) (World.ownsRow_nil _ _ _ _)
  clear hnil
  go_enter Tryd.func12, Tryd.ntmps12
  go_wp2
  refine wp_loop_rounds 1 ?_
  rw [rounds_succ]
  go_wp2_with fail
  refine (plain_no ⟨#[]⟩ _ he (by decide) HNIL.out).mono ?_
  rintro e w1 ⟨rfl, hb1⟩
  go_wp2_with fail
  refine (works_ok _ (he.below hb1)).mono ?_
  rintro e w2 ⟨rfl, hb2⟩
  go_wp2
  go_ret
  exact ⟨rfl, bel2 hb1 hb2⟩

set_option maxRecDepth 100000 in
set_option maxHeartbeats 8000000 in
theorem pln_some (b off len cap t : Nat) (o : UInt8) (c : Nat → Nat) (w : World) (he : Env w) (hlen : len ≤ 9223372036854775807) (h0 : 0 < len) (hb : b < w.heap.size) (ht : t < 256)
    (hc : ∀ j, j < len → w.cell? ⟨b, off + j, none⟩ = some (.int .u8 (c j : Int))) (hc2 : ∀ j, j < len → c j < 256) :
    Calls Tryd.prog 12 #[.slice (some ⟨b, off, none⟩) len cap, .int .u8 o.toNat, .int .u8 t] w fun e w' => e = .returned (.bool true) ∧ Below w.heap.size w w' := by
  obtain ⟨i0, hi, hz0, hz1, hz2⟩ := info_parts info_byte
  have HC := Lib.hid hc
  have HC2 := Lib.hid hc2
  have HE := Lib.hid he
  clear hc hc2 he
  go_enter Tryd.func12, Tryd.ntmps12
  go_wp2
  generalize hLIT : (⟨#[97, 98, 99, 100, 101, 102, 103, 104, 105, 106, 107, 108, 109, 110, 111, 112, 113, 114, 115, 116, 117, 118, 119, 120, 121, 122, 48, 49, 50, 51, 52, 53, 54, 55, 56, 57, 45, 46, 95]⟩ : ByteArray) = LIT
  have hL39 : LIT.size = 39 := by rw [← hLIT]; rfl
  have HLG : Hid (∀ j (h : j < LIT.size), LIT[j] = letB.getD j 0) := by
    intro j h
    subst hLIT
    have e : (⟨#[97, 98, 99, 100, 101, 102, 103, 104, 105, 106, 107, 108, 109, 110, 111, 112, 113, 114, 115, 116, 117, 118, 119, 120, 121, 122, 48, 49, 50, 51, 52, 53, 54, 55, 56, 57, 45, 46, 95]⟩ : ByteArray) = ⟨letB.toArray⟩ := rfl
    have hj : j < letB.length := h
    rw [List.getD_eq_getElem?_getD, List.getElem?_eq_getElem hj, Option.getD_some]
    rfl
  clear hLIT
  go_loopw [8, 9] (fun v i wr => PlRel c len w.heap.size w v i wr) (fun _ i _ => len - (intOf i).toNat)
  case atStart => exact ⟨0, Nat.zero_le _, Nat.zero_le _, rfl, World.ownsRow_nil _ _ _ _, Below.refl _ _, Nat.le_refl _⟩
  case round =>
    obtain ⟨k, hk, hk24, rfl, HOWN, hbw, hnw⟩ := hrel
    by_cases hgo : k < len ∧ k < 24
    · obtain ⟨hkl, hk2⟩ := hgo
      have hcell : wr.cell? ⟨b, off + k, none⟩ = some (.int .u8 (c k : Int)) := (hbw.cell (p := ⟨b, off + k, none⟩) hb).trans (HC.out k hkl)
      have hck := HC2.out k hkl
      obtain ⟨j, hj⟩ : ∃ j, c k % 39 = j := ⟨_, rfl⟩
      have hj39 : j < 39 := by omega
      have hjL : j < LIT.size := by omega
      have e1 : ((c k : Int)).tmod 39 = (j : Int) := by rw [Int.tmod_eq_emod_of_nonneg (by omega)]; omega
      have e1' : (c k : Int) % 39 = (j : Int) := by omega
      obtain ⟨d, hd⟩ : ∃ d, letB.getD j 0 = d := ⟨_, rfl⟩
      have hidx : LIT[j] = d := (HLG.out j hjL).trans hd
      have HSN : Hid (bl c (k + 1) = bl c k ++ [d]) := by unfold Hid; rw [bl_succ, hj, hd]
      have hown : wr.ownsRow w.heap.size 5 1 _ (bl c k).length (Lib.byteCells (bl c k)) := HOWN.out
      have hbl := bl_length c k
      generalize bl c k = acc at *
      have hal : acc.length ≤ 24 := by omega
      clear hbl hj hd
      go_wp2_with (at_builtin; refine wpList_append_own _ rfl _ _ 40 rfl w.heap.size 5 i0 (.int .u8 0) 1 1 Tryd.underlying40 hi hz0 hz1 hz2 rfl (by decide) _ _ _ rfl (hown.alloc _) ⟨wr.heap.size, 0, none⟩ 1 1 [.int .u8 d.toNat] rfl rfl ?c1 ?c2 ?c3 ?c4 ?c5 ?_)
      case c1 =>
        intro j u hj
        match j, hj with
        | 0, hj => simp at hj; subst hj; simp [Addr.add]
      case c2 => intro u hu; simp at hu; subst hu; rfl
      case c3 => unfold maxLen; omega
      case c4 => omega
      case c5 => simp; omega
      intro v' w2 hown' hgrow _
      have HB2 := Lib.hid ((hbw.alloc hnw _).grown hgrow (by simp; omega) (fun k hk => HOWN.out.ge k hk))
      have HO2 := Lib.hid (own_snoc hown')
      have hnw2 : w.heap.size ≤ w2.heap.size := by have := hgrow.size; simp at this; omega
      clear hown' hgrow hown
      go_wp2
      go_roundw
      case rel => exact ⟨k + 1, by omega, by omega, by go_num, by rw [HSN.out]; exact HO2.out, HB2.out, hnw2⟩
      case measure => simp [intOf]; omega
    · have hex : ¬ k < len ∨ (k < len ∧ ¬ k < 24) := by omega
      have hk0 : 0 < k := by omega
      have hbl := bl_length c k
      have hpl := bl_plain c k
      generalize bl c k = acc at *
      have ha1 : 0 < acc.length := by omega
      have ha24 : acc.length ≤ 24 := by omega
      have hz : ((acc.length : Int) == 0) = false := beq_eq_false_iff_ne.2 (by omega)
      obtain ⟨g, cap2, rfl, hg, hgl⟩ := ownB_form HOWN.out (by omega)
      obtain ⟨S, hS⟩ : ∃ S : ByteArray, (⟨acc.toArray⟩ : ByteArray) = S := ⟨_, rfl⟩
      have hSl : S.data.toList = acc := by rw [← hS]
      have hSs : S.size = acc.length := by rw [Lib.size_eq, hSl]
      have hS24 : S.size ≤ 24 := by omega
      have hcv := HOWN.out.conv
      rw [hS] at hcv
      have htag : Tag S.data.toList (acc.map UInt8.toNat) := by rw [hSl]; exact tag_of_plain acc hpl (by omega) (by omega)
      obtain ⟨Q, hQ⟩ : ∃ Q : ByteArray, (⟨#[34]⟩ : ByteArray) ++ S ++ ⟨#[34]⟩ = Q := ⟨_, rfl⟩
      have hqe : (⟨(quo S.data.toList).toArray⟩ : ByteArray) = Q := by
        rw [← hQ, hSl, quo, esc_of_plain acc hpl, ← hS]
        apply ByteArray.ext
        simp
      have HQt : Hid (∀ W, Env W → Calls Tryd.prog 14 #[.string S] W fun e w' => e = .returned (.tuple #[.string Q, .int .i64 0]) ∧ Below W.heap.size W w') := by
        intro W hW
        rw [← hqe]; exact quote_tag S _ W hW htag
      have HWd : Hid (∀ W, Env W → Calls Tryd.prog 16 #[.string S] W fun e w' => e = .returned (.tuple #[.int .i64 S.size, .int .i64 0]) ∧ Below W.heap.size W w') := by
        intro W hW
        have := width_tag S _ W hW htag
        rwa [wids_of_plain acc hpl, ← hSs] at this
      have HPl : Hid (∀ W, Env W → Calls Tryd.prog 20 #[.string S] W fun e w' => e = .returned (.bool true) ∧ Below W.heap.size W w') := by
        intro W hW
        exact plain_val S W hW (by omega) (by omega) hS24 true (by rw [hSl]; simpa using hpl)
      obtain ⟨j2, hj2⟩ : ∃ j2, t % acc.length = j2 := ⟨_, rfl⟩
      have hj2l : j2 < acc.length := by rw [← hj2]; exact Nat.mod_lt _ ha1
      have e2' : (t : Int) % (acc.length : Int) = (j2 : Int) := by
        have := congrArg (fun n : Nat => (n : Int)) hj2
        simpa using this
      have e2 : (t : Int).tmod (acc.length : Int) = (j2 : Int) := by
        rw [Int.tmod_eq_emod_of_nonneg (by omega)]; exact e2'
      obtain ⟨L2, hL2⟩ : ∃ L2, acc.set j2 o = L2 := ⟨_, rfl⟩
      have hL2l : L2.length = acc.length := by rw [← hL2]; simp
      have HSP : Hid (o ∈ letB ↔ ∀ b ∈ L2, PlainR b.toNat) := by rw [← hL2]; exact set_plain acc j2 o hj2l hpl
      have HL2 := Lib.hid hL2
      have HL2l := Lib.hid hL2l
      have HSS := Lib.hid hSs
      clear hbl hpl hS hSl htag hqe hj2 hL2 hL2l hSs
      rcases hex with hx1 | ⟨hx1, hx2⟩
      all_goals
        go_wp2_with fail
        refine (HQt.out _ (HE.out.below hbw)).mono ?_
        rintro e w2 ⟨rfl, hb2⟩
        have B2 := Lib.hid hb2
        clear hb2 hcv
        go_wp2_with fail
        refine (HWd.out _ (HE.out.below (hbw.trans (B2.out.mono hnw)))).mono ?_
        rintro e w3 ⟨rfl, hb3⟩
        have B3 := Lib.hid (bel2 B2.out hb3)
        clear hb3 B2
        go_wp2_with fail
        refine (HPl.out _ (HE.out.below (hbw.trans (B3.out.mono hnw)))).mono ?_
        rintro e w4 ⟨rfl, hb4⟩
        have B4 := Lib.hid (bel2 B3.out hb4)
        clear hb4 B3
        have HO4 := Lib.hid (HOWN.out.below B4.out)
        have hc4 : w4.cell? ⟨g, j2, none⟩ = some (.int .u8 ((acc[j2]'hj2l).toNat : Int)) := by
          rw [World.ownsRow.cellAt HO4.out j2 (by omega)]
          simp [Lib.byteCells, List.getElem?_eq_getElem hj2l]
        have hf4 : w4.frozen? ⟨g, j2, none⟩ = false := World.ownsRow.frozenAt HO4.out j2
        have hst := World.ownsRow.stored HO4.out j2 (.int .u8 (o.toNat : Int))
        rw [byteCells_set, HL2.out] at hst
        have HO5 : Hid (OwnB w.heap.size (w4.setCell ⟨g, j2, none⟩ (.int .u8 (o.toNat : Int))) (.slice (some ⟨g, 0, none⟩) acc.length cap2) L2) := by
          unfold Hid OwnB
          rw [HL2l.out]
          exact hst.1
        have HB5 : Hid (Below w.heap.size w (w4.setCell ⟨g, j2, none⟩ (.int .u8 (o.toNat : Int)))) := (hbw.trans (B4.out.mono hnw)).setCell (p := ⟨g, j2, none⟩) hg _
        clear hst
        go_wp2
        generalize w4.setCell ⟨g, j2, none⟩ (.int .u8 (o.toNat : Int)) = w5 at *
        clear hc4 hf4 e2 e2' hQ
        go_loop [15, 16] (fun i v => LtRel o i v) (fun _ v => 39 - (intOf v).toNat)
        case atStart => exact ⟨0, false, Nat.zero_le _, rfl, rfl, by unfold Hid; simp⟩
        case round =>
          obtain ⟨q, p, hq, rfl, rfl, HP⟩ := hrel
          by_cases hlt : q < 39
          · have hqL : q < LIT.size := by omega
            obtain ⟨d, hd⟩ : ∃ d, letB.getD q 0 = d := ⟨_, rfl⟩
            have hidx : LIT[q] = d := (HLG.out q hqL).trans hd
            have htk : letB.take (q + 1) = letB.take q ++ [d] := by
              rw [List.take_succ_eq_append_getElem (show q < letB.length from hlt), ← hd, List.getD_eq_getElem?_getD, List.getElem?_eq_getElem (show q < letB.length from hlt), Option.getD_some]
            have HTK := Lib.hid htk
            clear htk hd
            cases p with
            | true =>
              go_wp2
              go_round
              case rel => exact ⟨q + 1, true, by omega, by go_num, rfl, by unfold Hid; rw [HTK.out]; have := HP.out; simp at this; simp [this]⟩
              case measure => simp [intOf]; omega
            | false =>
              by_cases hdo : d = o
              · have hbe : ((d.toNat : Int) == (o.toNat : Int)) = true := by rw [hdo]; simp
                go_wp2
                go_round
                case rel => exact ⟨q + 1, true, by omega, by go_num, rfl, by unfold Hid; rw [HTK.out, hdo]; simp⟩
                case measure => simp [intOf]; omega
              · have hbe : ((d.toNat : Int) == (o.toNat : Int)) = false := by
                  rw [beq_eq_false_iff_ne]; intro e; exact hdo (u8eq (by omega))
                go_wp2
                go_round
                case rel => exact ⟨q + 1, false, by omega, by go_num, rfl, by unfold Hid; rw [HTK.out]; have := HP.out; simp at this; simp [this]; exact fun e => hdo e.symm⟩
                case measure => simp [intOf]; omega
          · have hp : p = true ↔ ∀ b ∈ L2, PlainR b.toNat := by
              rw [HP.out, List.take_of_length_le (by have : letB.length = 39 := rfl; omega), decide_eq_true_iff]
              exact HSP.out
            obtain ⟨S2, hS2⟩ : ∃ S2 : ByteArray, (⟨L2.toArray⟩ : ByteArray) = S2 := ⟨_, rfl⟩
            have hS2l : S2.data.toList = L2 := by rw [← hS2]
            have hS2s : S2.size = acc.length := by rw [Lib.size_eq, hS2l]; exact HL2l.out
            have HP2 : Hid (∀ W, Env W → Calls Tryd.prog 20 #[.string S2] W fun e w' => e = .returned (.bool p) ∧ Below W.heap.size W w') := by
              intro W hW
              exact plain_val S2 W hW (by omega) (by omega) (by omega) p (by rw [hS2l]; exact hp)
            have hcv2 := HO5.out.conv
            rw [hS2] at hcv2
            clear hp hS2 hS2l hS2s HP
            go_wp2_with fail
            refine (HP2.out _ (HE.out.below HB5.out)).mono ?_
            rintro e w6 ⟨rfl, hb6⟩
            have B6 := Lib.hid (bel2 HB5.out hb6)
            clear hb6
            cases p
            all_goals
              go_wp2_with fail
              refine (works_ok _ (HE.out.below B6.out)).mono ?_
              rintro e w7 ⟨rfl, hb7⟩
              go_wp2
              go_ret
              exact ⟨rfl, bel2 B6.out hb7⟩
end Go.Proofs.YtmgkdklpahggjaaDoor
