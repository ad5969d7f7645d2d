/- The contracts of the document's Cut and Plain. -/
import Derived.Test.YtmgkdklpahggjaaDoorRd
namespace Go.Proofs.YtmgkdklpahggjaaDoor
open Go.RowKit

set_option maxRecDepth 100000 in
set_option maxHeartbeats 2000000 in
theorem rcut_tag (s : ByteArray) (rs : List Nat) (wd : Nat) (w : World) (h : Tag s.data.toList rs) (hwd : wd ≤ 9223372036854775807) :
    Calls Tryd.prog 25 #[.string s, .int .i64 wd] w fun e w' => e = .returned (.tuple #[.string (cutB s rs wd), .int .i64 0]) ∧ Below w.heap.size w w' := by
  have hs : s.size ≤ 96 := by rw [Lib.size_eq]; exact (tag_len h).2
  have hw48 : wids rs ≤ 48 := by have := (wids_le rs).2; have := h.le; omega
  have HU := Lib.hid h.utf
  have HT := Lib.hid h
  clear h
  generalize hres : cutB s rs wd = res
  have HR := Lib.hid hres
  clear hres
  go_enter Tryd.func25, Tryd.ntmps25
  go_wp2_with fail
  refine (rcheck_tag s rs _ HT.out).mono ?_
  rintro e w1 ⟨rfl, hb1⟩
  go_wp2_with fail
  go_loop [6, 7] (fun i n => ∃ (ps ts : List Nat) (po wn : Nat), Hid (rs = ps ++ ts) ∧ i = .int .i64 po ∧ n = .int .i64 wn ∧ Hid (po = (ps.flatMap encR).length) ∧ Hid (wn = wids ps) ∧ wn ≤ wd ∧ wn ≤ 48 ∧ po ≤ s.size) (fun i _ => s.size - (intOf i).toNat)
  case atStart => exact ⟨[], rs, 0, 0, rfl, rfl, rfl, rfl, rfl, Nat.zero_le _, Nat.zero_le _, Nat.zero_le _⟩
  case round =>
    obtain ⟨ps, ts, po, wn, HPT, rfl, rfl, HPO, HWN, hwn, hwn48, hpo⟩ := hrel
    cases ts with
    | nil =>
      have hpe : po = s.size := by rw [HPO.out, Lib.size_eq, HU.out.2, HPT.out]; simp
      subst hpe
      go_wp2
      go_ret2
      refine ⟨?_, hb1⟩
      have e : cutB s rs wd = s.extract 0 s.size := by
        unfold cutB
        rw [fit_all rs wd (by rw [HPT.out, List.append_nil, ← HWN.out]; exact hwn), HPT.out, List.append_nil, ← HPO.out]
      rw [← HR.out, e]
      first | rfl | simp
    | cons r ts =>
      have hr : OkRune r := HU.out.1 r (by rw [HPT.out]; simp)
      have he1 : s.data.toList = ps.flatMap encR ++ (encR r ++ ts.flatMap encR) := by rw [HU.out.2, HPT.out]; simp
      have hlen := encR_length r
      have hsz : po + (encR r).length ≤ s.size := by rw [HPO.out, Lib.size_eq, he1]; simp
      have hlt : po < s.size := by omega
      have h12 := wid_12 r
      have hws : wn + wid r ≤ 48 := by rw [HPT.out, wids_append, wids_cons, ← HWN.out] at hw48; omega
      have HR1 := Lib.hid hr
      have HE1 := Lib.hid he1
      have hRG : Calls Tryd.prog 37 #[.string s, .int .i64 po] w1 fun e w' => e = .returned (.tuple #[.int .i64 r, .int .i64 (encR r).length]) ∧ w1 = w' := by
        rw [HPO.out]; exact rune_good s _ _ r w1 (by omega) hr he1
      have HRG := Lib.hid hRG
      clear hr he1 hRG
      generalize hwr : wid r = x at *
      have HW := Lib.hid hwr
      clear hwr
      by_cases hfit : wn + x ≤ wd
      · go_wp2_with fail
        refine HRG.out.mono ?_
        rintro e w3 ⟨rfl, rfl⟩
        go_wp2_with fail
        refine (rwide_any r _).mono ?_
        rintro e w3 ⟨rfl, rfl⟩
        rw [HW.out]
        go_wp2
        go_round
        case rel =>
          refine ⟨ps ++ [r], ts, po + (encR r).length, wn + x, ?_, by go_num, by go_num, ?_, ?_, hfit, hws, hsz⟩
          · have := HPT.out; unfold Hid; rw [this]; simp
          · have := HPO.out; unfold Hid; rw [this]; simp
          · have := HWN.out; have := HW.out; unfold Hid; rw [wids_append, wids_cons]; simp [wids] at *; omega
        case measure => simp [intOf]; omega
      · go_wp2_with fail
        refine HRG.out.mono ?_
        rintro e w3 ⟨rfl, rfl⟩
        go_wp2_with fail
        refine (rwide_any r _).mono ?_
        rintro e w3 ⟨rfl, rfl⟩
        rw [HW.out]
        go_wp2
        go_ret2
        refine ⟨?_, hb1⟩
        have e : cutB s rs wd = s.extract 0 po := by
          unfold cutB
          rw [HPT.out, fit_stop ps r ts wd (by rw [← HWN.out]; exact hwn) (by rw [← HWN.out, HW.out]; omega), ← HPO.out]
        rw [← HR.out, e]
        first | rfl | simp
set_option maxRecDepth 100000 in
set_option maxHeartbeats 400000 in
theorem rcut_no (s : ByteArray) (wd : Int) (w : World) (hs : s.size ≤ 1000000) (h : NoTag s.data.toList) :
    Calls Tryd.prog 25 #[.string s, .int .i64 wd] w fun e w' => e = .returned (.tuple #[.string ⟨#[]⟩, .int .i64 16]) ∧ Below w.heap.size w w' := by
  have HN := Lib.hid h
  clear h
  go_enter Tryd.func25, Tryd.ntmps25
  go_wp2_with fail
  refine (rcheck_no s _ hs HN.out).mono ?_
  rintro e w1 ⟨rfl, hb1⟩
  go_wp2
  go_ret2
  exact ⟨rfl, hb1⟩
set_option maxRecDepth 100000 in
set_option maxHeartbeats 400000 in
theorem rcut_neg (s : ByteArray) (rs : List Nat) (wd : Int) (w : World) (h : Tag s.data.toList rs) (hwd : wd < 0) :
    Calls Tryd.prog 25 #[.string s, .int .i64 wd] w fun e w' => e = .returned (.tuple #[.string ⟨#[]⟩, .int .i64 2]) ∧ Below w.heap.size w w' := by
  have HT := Lib.hid h
  clear h
  go_enter Tryd.func25, Tryd.ntmps25
  go_wp2_with fail
  refine (rcheck_tag s rs _ HT.out).mono ?_
  rintro e w1 ⟨rfl, hb1⟩
  go_wp2
  go_ret2
  exact ⟨rfl, hb1⟩

/-! ### Plain -/
theorem plain_bytes {l : List UInt8} {rs : List Nat} (h : Utf l rs) : (∀ r ∈ rs, PlainR r) ↔ (∀ b ∈ l, PlainR b.toNat) := by
  induction rs generalizing l with
  | nil => rw [show l = [] from h.2]; simp
  | cons r rs ih =>
    obtain ⟨m, hr, rfl, hm⟩ := utf_inv h
    have hle := okRune_le hr
    have e1 : PlainR r ↔ ∀ b ∈ encR r, PlainR b.toNat := by
      by_cases h1 : r < 128
      · rw [encR_1 h1]; simp [u8nat (show r < 256 by omega)]
      · have hno : ¬ PlainR r := by unfold PlainR; omega
        refine ⟨fun h => absurd h hno, fun h => ?_⟩
        exfalso
        have hb : ∀ n, n < 256 → UInt8.ofNat n ∈ encR r → PlainR n := fun n hn hm => by have := h _ hm; rwa [u8nat hn] at this
        have hn : ∀ n, 128 ≤ n → ¬ PlainR n := fun n hn => by unfold PlainR; omega
        by_cases h2 : r < 2048
        · rw [encR_2 (by omega) h2] at hb
          exact hn (192 + r / 64) (by omega) (hb _ (by omega) (by simp))
        · by_cases h3 : r < 65536
          · rw [encR_3 (by omega) h3] at hb
            exact hn (224 + r / 4096) (by omega) (hb _ (by omega) (by simp))
          · rw [encR_4 (by omega)] at hb
            exact hn (240 + r / 262144) (by omega) (hb _ (by omega) (by simp))
    constructor
    · intro hp b hb
      rcases List.mem_append.1 hb with hb | hb
      · exact e1.1 (hp r (by simp)) b hb
      · exact (ih hm).1 (fun x hx => hp x (by simp [hx])) b hb
    · intro hp x hx
      rcases List.mem_cons.1 hx with rfl | hx
      · exact e1.2 fun b hb => hp b (by simp [hb])
      · exact (ih hm).2 (fun b hb => hp b (by simp [hb])) x hx

def RpPost (l : List UInt8) (n : Nat) (w : World) (e : Ending) (w' : World) : Prop :=
  Below n w w' ∧ (((∃ rs, Tag l rs) ∧ (∀ b ∈ l, PlainR b.toNat) ∧ e = .returned (.bool true)) ∨ (¬ ((∃ rs, Tag l rs) ∧ (∀ b ∈ l, PlainR b.toNat)) ∧ e = .returned (.bool false)))
set_option maxRecDepth 100000 in
set_option maxHeartbeats 4000000 in
theorem rplain_any (s : ByteArray) (w : World) (hs : s.size ≤ 1000000) :
    Calls Tryd.prog 21 #[.string s] w (RpPost s.data.toList w.heap.size w) := by
  go_enter Tryd.func21, Tryd.ntmps21
  go_wp2
  go_loop [3] (fun i => ∃ k : Nat, k ≤ s.size ∧ i = .int .i64 k ∧ Hid (∀ b ∈ s.data.toList.take k, PlainR b.toNat)) (fun i => s.size - (intOf i).toNat)
  case atStart => exact ⟨0, Nat.zero_le _, rfl, by intro b hb; simp at hb⟩
  case round =>
    obtain ⟨k, hk, rfl, HG⟩ := hrel
    by_cases hlt : k < s.size
    · have hts : s.data.toList.take (k + 1) = s.data.toList.take k ++ [s[k]] := by
        rw [List.take_succ_eq_append_getElem (by rw [← Lib.size_eq]; exact hlt)]; rfl
      have hmem : s[k] ∈ s.data.toList := by
        have : s[k] ∈ s.data.toList.take (k + 1) := by rw [hts]; simp
        exact List.mem_of_mem_take this
      obtain ⟨c, hc⟩ : ∃ c, s[k] = c := ⟨_, rfl⟩
      rw [hc] at hts hmem
      obtain ⟨n, hn⟩ : ∃ n, c.toNat = n := ⟨_, rfl⟩
      have hn256 : n < 256 := by rw [← hn]; exact c.toNat_lt
      have HTS := Lib.hid hts
      have HM := Lib.hid hmem
      have HN := Lib.hid hn
      clear hts hmem
      by_cases hp : PlainR n
      · have HP := Lib.hid hp
        unfold PlainR at hp
        have hp' : (97 ≤ n ∧ n ≤ 122) ∨ (¬ 97 ≤ n ∧ 48 ≤ n ∧ n ≤ 57) ∨ n = 45 ∨ n = 46 ∨ n = 95 := by omega
        clear hp
        rcases hp' with ⟨h1, h2⟩ | ⟨h3, h1, h2⟩ | rfl | rfl | rfl
        all_goals
          go_wp2
          go_round
          case rel =>
            refine ⟨k + 1, by omega, by go_num, ?_⟩
            intro b hb
            rw [HTS.out] at hb
            rcases List.mem_append.1 hb with h | h
            · exact HG.out b h
            · obtain rfl : b = c := by simpa using h
              rw [HN.out]; exact HP.out
          case measure => simp [intOf]; omega
      · have hno : ¬ ((∃ rs, Tag s.data.toList rs) ∧ (∀ b ∈ s.data.toList, PlainR b.toNat)) := fun h => hp (by have := h.2 c HM.out; rwa [HN.out] at this)
        have HNO := Lib.hid hno
        clear hno
        unfold PlainR at hp
        have e1 : ((n : Int) == 45) = false := beq_eq_false_iff_ne.2 (by omega)
        have e2 : ((n : Int) == 46) = false := beq_eq_false_iff_ne.2 (by omega)
        have e3 : ((n : Int) == 95) = false := beq_eq_false_iff_ne.2 (by omega)
        by_cases h1 : 97 ≤ n
        · have h2 : decide ((n : Int) ≤ 122) = false := decide_eq_false (by omega)
          have h3 : 48 ≤ n := by omega
          have h4 : decide ((n : Int) ≤ 57) = false := decide_eq_false (by omega)
          clear hp
          go_wp2
          go_ret
          exact ⟨Below.refl _ _, .inr ⟨HNO.out, rfl⟩⟩
        by_cases h3 : 48 ≤ n
        · have h4 : decide ((n : Int) ≤ 57) = false := decide_eq_false (by omega)
          clear hp
          go_wp2
          go_ret
          exact ⟨Below.refl _ _, .inr ⟨HNO.out, rfl⟩⟩
        · clear hp
          go_wp2
          go_ret
          exact ⟨Below.refl _ _, .inr ⟨HNO.out, rfl⟩⟩
    · have hall : ∀ b ∈ s.data.toList, PlainR b.toNat := by
        have := HG.out
        rwa [List.take_of_length_le (by rw [← Lib.size_eq]; omega)] at this
      have HALL := Lib.hid hall
      clear hall HG
      rcases tag_dec s.data.toList with ⟨rs, ht⟩ | ht
      · have HT := Lib.hid ht
        clear ht
        go_wp2_with fail
        refine (rcheck_tag s rs _ HT.out).mono ?_
        rintro e w1 ⟨rfl, hb1⟩
        go_wp2
        go_ret
        exact ⟨hb1, .inl ⟨⟨rs, HT.out⟩, HALL.out, rfl⟩⟩
      · have HT := Lib.hid ht
        clear ht
        go_wp2_with fail
        refine (rcheck_no s _ hs HT.out).mono ?_
        rintro e w1 ⟨rfl, hb1⟩
        go_wp2
        go_ret
        exact ⟨hb1, .inr ⟨fun h => h.1.elim HT.out, rfl⟩⟩
theorem rplain_tag (s : ByteArray) (rs : List Nat) (w : World) (h : Tag s.data.toList rs) :
    Calls Tryd.prog 21 #[.string s] w fun e w' => e = .returned (.bool (decide (∀ r ∈ rs, PlainR r))) ∧ Below w.heap.size w w' := by
  refine (rplain_any s w (by rw [Lib.size_eq]; have := (tag_len h).2; omega)).mono ?_
  rintro e w' ⟨hb, ⟨_, hp, rfl⟩ | ⟨hp, rfl⟩⟩
  · exact ⟨by rw [decide_eq_true ((plain_bytes h.utf).2 hp)], hb⟩
  · exact ⟨by rw [decide_eq_false fun hx => hp ⟨⟨rs, h⟩, (plain_bytes h.utf).1 hx⟩], hb⟩
theorem rplain_no (s : ByteArray) (w : World) (hs : s.size ≤ 1000000) (h : NoTag s.data.toList) :
    Calls Tryd.prog 21 #[.string s] w fun e w' => e = .returned (.bool false) ∧ Below w.heap.size w w' := by
  refine (rplain_any s w hs).mono ?_
  rintro e w' ⟨hb, ⟨ht, _, _⟩ | ⟨_, he⟩⟩
  · exact absurd ht (fun ⟨rs, hr⟩ => h rs hr)
  · exact ⟨he, hb⟩
end Go.Proofs.YtmgkdklpahggjaaDoor
