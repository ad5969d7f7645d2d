/- The walk of the statement AnswerOrder: it returns true for all texts of letters. -/
import Derived.Test.YtllfmancfkmimaaDoorAeo
namespace Go.Proofs.YtllfmancfkmimaaDoor
open Go.RowKit

/-- What has been added of the rows ls. -/
def wants (ls : List (List Int)) : List Int := ls.flatMap ans_
theorem wants_snoc (ls : List (List Int)) (k : Nat) (h : k < ls.length) : wants (ls.take (k + 1)) = wants (ls.take k) ++ ans_ ls[k] := by
  unfold wants
  rw [List.take_succ_eq_append_getElem h, List.flatMap_append]; simp
theorem wants_le (ls : List (List Int)) (h : ∀ r ∈ ls, r.length ≤ 60) : (wants ls).length ≤ 60 * ls.length := by
  induction ls with
  | nil => simp [wants]
  | cons r rs ih =>
    have h1 := h r (by simp)
    have h2 := ih fun x hx => h x (by simp [hx])
    have e : wants (r :: rs) = ans_ r ++ wants rs := by simp [wants]
    rw [e, List.length_append, ans_length, List.length_cons]
    omega
theorem St.same {w0 w w' : World} {b : Nat} {L : List Int} (h : St w0 w b L) (e1 : w'.heap = w.heap) (e2 : w'.os = w.os) (e3 : w'.tape = w.tape) (e4 : w'.output = w.output) : St w0 w' b L :=
  ⟨h.env, ⟨h.s.ok, by obtain ⟨a, c, h1, h2⟩ := h.s.at_; exact ⟨a, c, h1.same (by rw [e1]), h2.same fun _ _ _ => by rw [e1]⟩⟩, ⟨e2.trans h.bel.os, e3.trans h.bel.tape, e4.trans h.bel.output, by rw [e1]; exact h.bel.size, fun k hk => by rw [e1]; exact h.bel.block k hk⟩, h.lo⟩
theorem St.peekb {w0 w : World} {b : Nat} {L : List Int} (h : St w0 w b L) (n : Int) {M : List Int} (hM : L.take n.toNat = M) : Calls Tryd.prog 23 #[.pointer (some ⟨b, 0, none⟩), .int .i64 n] w fun e w' => ∃ a c, e = .returned (.slice a M.length c) ∧ Sl w' (.slice a M.length c) M ∧ St w0 w' b L ∧ Below w.heap.size w w' :=
  (peek_ok b n L w h.s).mono fun _ _ ⟨v, h1, h2, h3⟩ => by
    rw [hM] at h2
    have hs := Sl.of_own h2
    obtain ⟨a, c, rfl, hs2⟩ := hs.len
    exact ⟨a, c, h1, hs2, h.below h3, h3⟩
theorem Sl.val {w : World} {g off n c j : Nat} {l : List Int} {x : Int} (h : Sl w (.slice (some ⟨g, off, none⟩) n c) l) (hj : l[j]? = some x) : w.cell? ⟨g, off + j, none⟩ = some (.int .i64 x) := by
  have hjl := (List.getElem?_eq_some_iff.1 hj)
  obtain ⟨g', off', e, _, hc, _⟩ := h.cell hjl.1
  injection e with e
  injection e with e1 e2
  subst e1 e2
  rw [hc, hjl.2]
/-- The state of loop 1: the source has what want holds; the blocks of both differ. -/
structure OSt (w0 w : World) (b : Nat) (v : Value) (L W : List Int) : Prop where
  s : St w0 w b L
  o : w.ownsRow w0.heap.size 3 1 v W.length (ints W)
  at_ : At w b fun k => v.ownBlock ≠ some k
theorem OSt.ne {w0 w : World} {b : Nat} {v : Value} {L W : List Int} (h : OSt w0 w b v L W) : v.ownBlock ≠ some b := fun e => by
  rcases h.o.2 with ⟨rfl, _⟩ | ⟨g, cap, cur, rfl, _, hg, _⟩
  · simp [Value.ownBlock] at e
  · obtain rfl : g = b := by simpa [Value.ownBlock] using e
    obtain ⟨a, c, h1, _⟩ := h.s.s.at_
    exact absurd ((show Bk w g 3 cur from hg).uniq h1).1 (by decide)
theorem OSt.below {w0 w w' : World} {b : Nat} {v : Value} {L W : List Int} (h : OSt w0 w b v L W) (k : Below w.heap.size w w') : OSt w0 w' b v L W :=
  ⟨h.s.below k, own_below h.o k, h.at_.below k⟩
/-- A number is appended to want. -/
theorem OSt.app {w0 w w' : World} {b : Nat} {v v' : Value} {L W : List Int} {x : Int} {tmp : Obj} (h : OSt w0 w b v L W)
    (hown : w'.ownsRow w0.heap.size 3 1 v' (W ++ [x]).length (ints (W ++ [x]))) (hgrow : (w.alloc tmp).grownBy w' v.ownBlock) (hat : v'.ownBlock = v.ownBlock ∨ v'.ownBlock = some (w.alloc tmp).heap.size) : OSt w0 w' b v' L (W ++ [x]) := by
  have hlo := h.s.bel.size
  have hne := h.ne
  have keep : ∀ k, k < w.heap.size → v.ownBlock ≠ some k → w'.heap[k]? = w.heap[k]? := fun k hk hn => by
    rw [hgrow.block k (by simp; omega) (fun e => hn e.symm)]
    exact Below.heap_alloc _ _ _ hk
  obtain ⟨a, c, h1, h2⟩ := h.s.s.at_
  have hoff := h.at_.here (h1.cell 1)
  obtain ⟨a', c', e, q1, q2, q3, q4⟩ := h2
  injection e with e1 e2 e3
  subst e1 e3
  have hbk : Bk w' b 43 #[.bool true, .slice a L.length c] := h1.same (keep b h1.lt hne)
  refine ⟨⟨h.s.env, ⟨h.s.s.ok, a, c, hbk, a, c, rfl, q1, q2, q3, fun b' hb' => ?_⟩, (h.s.bel.alloc hlo tmp).grown hgrow (by simp; omega) (fun k hk => (h.o.lt k hk).1), h.s.lo⟩, hown, a, _, _, hbk.cell 1, fun a0 ha => ?_⟩
  · obtain ⟨g, off, cur, e4, hg, hc⟩ := q4 b' hb'
    exact ⟨g, off, cur, e4, hg.same (keep g hg.lt (by have := hoff b' hb'; rw [e4] at this; exact this)), hc⟩
  · obtain ⟨g, off, cur, e4, hg, hc⟩ := q4 a0 ha
    have hlt := hg.lt
    rcases hat with e | e
    · rw [e]; exact hoff a0 ha
    · rw [e, e4]
      intro e5
      have := Option.some.inj e5
      simp at this
      omega
/-- A text is added. -/
theorem OSt.add {w0 w : World} {b : Nat} {v : Value} {L W : List Int} (h : OSt w0 w b v L W) (s : ByteArray) {bs : List UInt8} (hb : s.data.toList = bs) (hs : s.size ≤ 140737488351232) {L' : List Int} (hE : aE L bs = 0) (hL : aL L bs = L') :
    Calls Tryd.prog 19 #[.pointer (some ⟨b, 0, none⟩), .string s] w fun e w' => e = .returned (.int .i64 0) ∧ OSt w0 w' b v L' W :=
  (add_at s b L w h.s.e h.s.s hs).mono fun _ w' ⟨h1, h2, h3, h4⟩ => by
    rw [hb] at h1 h2
    rw [hE] at h1
    rw [hL] at h2
    refine ⟨h1, ⟨h.s.env, h2, kept_bel h.s.bel h3 h.s.lo, h.s.lo⟩, ⟨h.o.1, ?_⟩, h4.out _ (fun k hk e => ?_) h.at_⟩
    · rcases h.o.2 with h5 | ⟨g, cap, cur, h5, h6, h7, h8⟩
      · exact .inl h5
      · refine .inr ⟨g, cap, cur, h5, h6, (show Bk w g 3 cur from h7).kept h3 (fun e => h.ne ?_), h8⟩
        subst h5
        have e' : g = b := e
        subst e'
        rfl
    · have := (h.o.lt k e).2
      omega

set_option maxRecDepth 100000 in
set_option maxHeartbeats 8000000 in
theorem aOrd_core (a : Option Addr) (n c : Nat) (ls : List (List Int)) (w : World) (hn : n ≤ 20) (hu : Rows8 w a n ls) (he : Env w) :
    Calls Tryd.prog 6 #[.slice a n c] w fun e w' => e = .returned (.bool true) ∧ Below w.heap.size w w' := by
  obtain rfl := hu.len
  obtain ⟨i0, hi, hz0, hz1, hz2⟩ := info_parts info_int
  have HE := Lib.hid he
  have HU := Lib.hid hu
  clear he hu
  go_enter Tryd.func6, Tryd.ntmps6
  go_wp2_with fail
  refine (new_ok _).mono ?_
  rintro e w1 ⟨rfl, h1, hb1⟩
  have H1 : Hid (OSt w w1 w.heap.size (.slice none 0 0) (wants (ls.take 0)) (wants (ls.take 0))) :=
    ⟨⟨HE.out, h1, hb1, Nat.le_refl _⟩, World.ownsRow_nil _ _ _ _, by obtain ⟨a, c, h2, _⟩ := h1.at_; exact ⟨a, _, c, h2.cell 1, fun a0 _ => by simp [Value.ownBlock]⟩⟩
  clear h1 hb1
  obtain ⟨b, eb⟩ : ∃ b, w.heap.size = b := ⟨_, rfl⟩
  rw [eb] at H1
  rw [eb]
  have HBB := Lib.hid eb
  clear eb
  go_wp2
  go_loopw [4, 5, 6] (fun v i _ wr => ∃ k : Nat, k ≤ ls.length ∧ i = .int .i64 k ∧ Hid (∀ r ∈ ls.take k, r.length ≤ 60) ∧ Hid (OSt w wr b v (wants (ls.take k)) (wants (ls.take k)))) (fun _ i _ _ => ls.length - (intOf i).toNat)
  case atStart => exact ⟨0, Nat.zero_le _, rfl, fun r hr => by simp at hr, H1.out⟩
  case round =>
    clear H1
    obtain ⟨k, hk, rfl, HR, HS⟩ := hrel
    by_cases hlt : k < ls.length
    · obtain ⟨g, off, rfl, hg, hcells⟩ := (HU.out.below HS.out.s.bel).at_ (by omega)
      obtain ⟨A, C, hcell, hrow⟩ := hcells k hlt
      have HROW := Lib.hid hrow
      have hw := wants_le (ls.take k) HR.out
      rw [List.length_take] at hw
      have hsn := wants_snoc ls k hlt
      have HSN := Lib.hid hsn
      have HR2 : Hid (ls[k].length ≤ 60 → ∀ r ∈ ls.take (k + 1), r.length ≤ 60) := fun h r hr => by
        rw [List.take_succ_eq_append_getElem hlt] at hr
        rcases List.mem_append.1 hr with h2 | h2
        · exact HR.out r h2
        · rw [List.mem_singleton.1 h2]; exact h
      obtain ⟨r, hr0⟩ : ∃ r, ls[k] = r := ⟨_, rfl⟩
      rw [hr0] at hcell HROW HR2 HSN
      have HRK := Lib.hid hr0
      clear hcells hsn hrow hr0
      by_cases hr : r.length ≤ 60
      · have HRR := Lib.hid (HR2.out hr)
        have hwl : (wants (ls.take k)).length ≤ 1200 := by omega
        have HWL := Lib.hid hwl
        generalize wants (ls.take k) = W at *
        clear HR2 hw hwl
        go_wp2_with fail
        obtain ⟨sr, hsr⟩ : ∃ sr, str (text (ans_ r)) = sr := ⟨_, rfl⟩
        have HSR := Lib.hid hsr
        clear hsr
        refine (let_str A _ C r _ HROW.out (by omega) HSR.out).mono ?_
        rintro e w2 ⟨rfl, hb2⟩
        have HS2 := Lib.hid (HS.out.below hb2)
        have HU2 := Lib.hid ((HU.out.below HS.out.s.bel).below hb2)
        have HROW2 := Lib.hid (HROW.out.below hb2)
        have hcell2 := cell_stays hb2 hcell
        clear hb2 hcell
        have hE : aE W (text (ans_ r)) = 0 := aE_ok (pE_let r (by omega)) (by rw [text_length, ans_length]; have := HWL.out; omega)
        have hL : aL W (text (ans_ r)) = W ++ ans_ r := by rw [aL_ok hE, nums_text (ans_ok r)]
        have HEL := Lib.hid (And.intro hE hL)
        clear hE hL
        go_wp2_with fail
        refine (HS2.out.add sr (data_let HSR.out) (by rw [size_let HSR.out]; omega) HEL.out.1 HEL.out.2).mono ?_
        rintro e w3 ⟨rfl, h3⟩
        have HS3 := Lib.hid (show OSt w w3 b _ (W ++ ans_ r) (W ++ ans_ (r.take 0)) by simpa [ans_] using h3)
        have HB3 := Lib.hid h3.s.bel
        clear h3 HS2 HS HROW HR
        go_wp2
        go_loopw [4, 6] (fun u j wq => ∃ (m : Nat), m ≤ r.length ∧ j = .int .i64 m ∧ Hid (OSt w wq b u (W ++ ans_ r) (W ++ ans_ (r.take m)))) (fun _ j _ => r.length - (intOf j).toNat)
        case atStart => exact ⟨0, Nat.zero_le _, rfl, HS3.out⟩
        case round =>
          clear HS3
          obtain ⟨m, hm, rfl, HQ⟩ := hrel
          obtain ⟨g', off', e', hg', hcells'⟩ := (HU.out.below HQ.out.s.bel).at_ (by omega)
          injection e' with e'
          injection e' with e1 e2
          subst e1 e2
          obtain ⟨A', C', hcell', hrow'⟩ := hcells' k hlt
          rw [HRK.out] at hcell' hrow'
          clear hcells'
          by_cases hmlt : m < r.length
          · obtain ⟨g2, off2, rfl, hg2, hcell2⟩ := hrow'.r.cell hmlt
            obtain ⟨hx0, hx1⟩ := hrow'.b r[m] (List.getElem_mem hmlt)
            have hans := ans_snoc r m hmlt
            have hwl : (W ++ ans_ (r.take m)).length ≤ 1300 := by
              have h1 := HWL.out
              rw [List.length_append, ans_length, List.length_take]; omega
            have HLE := Lib.hid hwl
            generalize r[m] = x at *
            obtain ⟨y, hy⟩ : ∃ y, x % 3 = y := ⟨_, rfl⟩
            have hy1 : x.tmod 3 = y := by rw [Int.tmod_eq_emod_of_nonneg hx0]; exact hy
            rw [hy] at hans
            obtain ⟨z, hz⟩ : ∃ z, 1 + y = z := ⟨_, rfl⟩
            rw [hz] at hans
            have HAN : Hid (W ++ ans_ (r.take (m + 1)) = (W ++ ans_ (r.take m)) ++ [z]) := by rw [hans, List.append_assoc]; rfl
            have hc : (y = 0 ∧ z = 1) ∨ (y = 1 ∧ z = 2) ∨ (y = 2 ∧ z = 3) := by omega
            have hown := HQ.out.o
            have hlo := HQ.out.s.bel.size
            generalize W ++ ans_ (r.take m) = V at *
            clear hans hrow' hwl hx1 hz
            rcases hc with ⟨rfl, rfl⟩ | ⟨rfl, rfl⟩ | ⟨rfl, rfl⟩
            · go_wp2_with (at_builtin; refine wpList_append_own_at _ rfl _ _ 22 rfl w.heap.size 3 i0 (.int .i64 0) 1 8 Tryd.underlying22 hi hz0 hz1 hz2 rfl (by decide) _ _ _ rfl (hown.alloc _) ⟨wr.heap.size, 0, none⟩ 1 1 [.int .i64 1] rfl rfl ?c1 ?c2 ?c3 ?c4 ?c5 ?_)
              rotate_right
              all_goals try (first | (have := HLE.out; unfold maxLen; omega) | (simp [Value.oneCell']; done) | (have := HLE.out; omega) | (simp; omega) | (intro u hu; simp at hu; subst hu; rfl) | (intro j u hj; match j, hj with | 0, hj => simp at hj; subst hj; simp [Addr.add]))
              intro v' w4 hown' hgrow _ hat
              have HQ2 := Lib.hid (HQ.out.app (x := 1) (by simpa [ints] using hown') hgrow (by simpa using hat))
              clear hown' hgrow hat hown hcell2 hcell'
              go_wp2
              go_roundw
              case rel => exact ⟨m + 1, by omega, by go_num, by rw [HAN.out]; exact HQ2.out⟩
              case measure => simp [intOf]; omega
            · go_wp2_with (at_builtin; refine wpList_append_own_at _ rfl _ _ 22 rfl w.heap.size 3 i0 (.int .i64 0) 1 8 Tryd.underlying22 hi hz0 hz1 hz2 rfl (by decide) _ _ _ rfl (hown.alloc _) ⟨wr.heap.size, 0, none⟩ 1 1 [.int .i64 2] rfl rfl ?d1 ?d2 ?d3 ?d4 ?d5 ?_)
              rotate_right
              all_goals try (first | (have := HLE.out; unfold maxLen; omega) | (simp [Value.oneCell']; done) | (have := HLE.out; omega) | (simp; omega) | (intro u hu; simp at hu; subst hu; rfl) | (intro j u hj; match j, hj with | 0, hj => simp at hj; subst hj; simp [Addr.add]))
              intro v' w4 hown' hgrow _ hat
              have HQ2 := Lib.hid (HQ.out.app (x := 2) (by simpa [ints] using hown') hgrow (by simpa using hat))
              clear hown' hgrow hat hown hcell2 hcell'
              go_wp2
              go_roundw
              case rel => exact ⟨m + 1, by omega, by go_num, by rw [HAN.out]; exact HQ2.out⟩
              case measure => simp [intOf]; omega
            · go_wp2_with (at_builtin; refine wpList_append_own_at _ rfl _ _ 22 rfl w.heap.size 3 i0 (.int .i64 0) 1 8 Tryd.underlying22 hi hz0 hz1 hz2 rfl (by decide) _ _ _ rfl (hown.alloc _) ⟨wr.heap.size, 0, none⟩ 1 1 [.int .i64 3] rfl rfl ?e1 ?e2 ?e3 ?e4 ?e5 ?_)
              rotate_right
              all_goals try (first | (have := HLE.out; unfold maxLen; omega) | (simp [Value.oneCell']; done) | (have := HLE.out; omega) | (simp; omega) | (intro u hu; simp at hu; subst hu; rfl) | (intro j u hj; match j, hj with | 0, hj => simp at hj; subst hj; simp [Addr.add]))
              intro v' w4 hown' hgrow _ hat
              have HQ2 := Lib.hid (HQ.out.app (x := 3) (by simpa [ints] using hown') hgrow (by simpa using hat))
              clear hown' hgrow hat hown hcell2 hcell'
              go_wp2
              go_roundw
              case rel => exact ⟨m + 1, by omega, by go_num, by rw [HAN.out]; exact HQ2.out⟩
              case measure => simp [intOf]; omega
          · obtain rfl : m = r.length := by omega
            have hq := HQ.out
            rw [List.take_length] at hq
            have HQ2 := Lib.hid hq
            clear hq HQ hrow'
            go_wp2
            go_roundw
            case rel => exact ⟨k + 1, by omega, by go_num, HRR.out, by rw [HSN.out]; exact HQ2.out⟩
            case measure => simp [intOf]; omega
      · clear HR2 HR HSN hw
        go_wp2_with fail
        refine (works_ok _ HS.out.s.e).mono ?_
        rintro e w2 ⟨rfl, hb2⟩
        go_wp2
        go_ret
        exact ⟨rfl, bel2 HS.out.s.bel hb2⟩
    · obtain rfl : k = ls.length := by omega
      have hs := HS.out
      rw [List.take_length] at hs
      have hw := wants_le ls (by have h := HR.out; rwa [List.take_length] at h)
      have hwl : (wants ls).length ≤ 1200 := by omega
      have HWL := Lib.hid hwl
      generalize wants ls = W at *
      have hsl := Sl.of_own hs.o
      obtain ⟨aw, cw, rfl, hsw⟩ := hsl.len
      have HW := Lib.hid hsw
      have HST : Hid (St w wr b (W.drop 0)) := hs.s
      clear hs hw hsl hsw HS HR
      go_wp2
      go_loopw [7] (fun i wr => ∃ k : Nat, k ≤ W.length ∧ i = .int .i64 k ∧ Hid (St w wr b (W.drop k)) ∧ Hid (Sl wr (.slice aw W.length cw) W)) (fun i _ => W.length - (intOf i).toNat)
      case atStart => exact ⟨0, Nat.zero_le _, rfl, HST.out, HW.out⟩
      case round =>
        clear HST HW
        obtain ⟨k, hk, rfl, HS, HW⟩ := hrel
        by_cases hlt2 : k < W.length
        · obtain ⟨M, hM⟩ : ∃ M, W.drop k = M := ⟨_, rfl⟩
          have hMl : M.length = W.length - k := by rw [← hM, List.length_drop]
          obtain ⟨x, hx⟩ : ∃ x, W[k]? = some x := ⟨_, List.getElem?_eq_getElem hlt2⟩
          have hMx : M[0]? = some x := by rw [← hM, List.getElem?_drop]; exact hx
          have hMh : M.headD 1 = x := by
            cases M with
            | nil => cases hMx
            | cons y r => cases hMx; rfl
          have hMt : M.tail = W.drop (k + 1) := by rw [← hM, List.tail_drop]
          have hMk : M.take ((W.length : Int)).toNat = M := by rw [Int.toNat_natCast, List.take_of_length_le (by omega)]
          rw [hM] at HS
          have HMX := Lib.hid (And.intro hx (And.intro hMx (And.intro hMh (And.intro hMt hMk))))
          have HML := Lib.hid hMl
          have hMp : 0 < M.length := by omega
          have hsub : (W.length : Int) - (k : Int) = (M.length : Int) := by omega
          have hmm : ((M.length : Int) != (M.length : Int)) = false := by simp
          have hwr : IntKind.i64.wrap (M.length : Int) = (M.length : Int) := by rw [IntKind.wrap_i64]; omega
          clear hM hx hMx hMh hMt hMk hMl
          go_wp2_with fail
          refine (HS.out.peekb (W.length : Int) HMX.out.2.2.2.2).mono ?_
          rintro e w4 ⟨ap, cp, rfl, hsp, h4, hb4⟩
          have HS4 := Lib.hid h4
          have HW4 := Lib.hid (HW.out.below hb4)
          obtain ⟨gp, op, rfl, _, hcp, _⟩ := hsp.cell hMp
          obtain ⟨gw, ow, rfl, _, hcw, _⟩ := HW4.out.cell hlt2
          have HSP := Lib.hid hsp
          have hz0p : w4.cell? ⟨gp, op, none⟩ = some (.int .i64 x) := hsp.val HMX.out.2.1
          have hz0w : w4.cell? ⟨gw, ow + k, none⟩ = some (.int .i64 x) := HW4.out.val HMX.out.1
          have hz0 := And.intro hz0p hz0w
          have hxx : (x != x) = false := by simp
          have hpl : gp < w4.heap.size := World.block_lt_of_cell? _ _ hz0p
          clear h4 hb4 hsp hcp hcw HS HW hz0p hz0w
          go_wp2
          go_region_held3 (fun W' => W'.cell? ⟨gp, op, none⟩ = some (.int .i64 x) ∧ W'.cell? ⟨gw, ow + k, none⟩ = some (.int .i64 x)) (first | exact hz0 | exact hz1)
            (first
            | (go_at_call 27; refine ((HS4.out.same (by rfl) (by rfl) (by rfl) (by rfl)).left rfl).mono ?_; rintro e W1 ⟨rfl, rfl⟩)
            | (go_at_call 21; refine ((HS4.out.same (by rfl) (by rfl) (by rfl) (by rfl)).next HMX.out.2.2.1 HMX.out.2.2.2.1).mono ?_; rintro e W2 ⟨rfl, h5, k5⟩; have HS5 := Lib.hid h5; have HW5 := Lib.hid (k5.out _ _ HW4.out); have hz1 := And.intro ((k5.out _ _ HSP.out).val HMX.out.2.1) (HW5.out.val HMX.out.1); clear h5 k5))
          go_wp2
          go_roundw
          case rel => exact ⟨k + 1, by omega, by go_num, HS5.out, HW5.out⟩
          case measure => simp [intOf]; omega
        · obtain rfl : k = W.length := by omega
          rw [List.drop_length] at HS
          clear HW
          go_wp2_with fail
          refine (HS.out.left (n := 0) rfl).mono ?_
          rintro e w' ⟨rfl, rfl⟩
          go_wp2_with fail
          refine (HS.out.peek 9 (M := []) rfl).mono ?_
          rintro e w4 ⟨ap, cp, rfl, _, h4⟩
          have H4 := Lib.hid h4
          clear h4
          simp only [List.length_nil]
          go_wp2_with fail
          refine (H4.out.next (x := 1) (L' := []) rfl rfl).mono ?_
          rintro e w5 ⟨rfl, h5, _⟩
          have H5 := Lib.hid h5
          clear h5
          go_wp2_with fail
          refine (H5.out.next (x := 1) (L' := []) rfl rfl).mono ?_
          rintro e w6 ⟨rfl, h6, _⟩
          have H6 := Lib.hid h6
          clear h6
          go_wp2_with fail
          refine (H6.out.left (n := 0) rfl).mono ?_
          rintro e w' ⟨rfl, rfl⟩
          go_wp2_with fail
          refine (works_ok _ H6.out.e).mono ?_
          rintro e w7 ⟨rfl, hb7⟩
          go_wp2
          go_ret
          exact ⟨rfl, bel2 H6.out.bel hb7⟩
set_option maxRecDepth 100000 in
theorem aOrd_long (a : Option Addr) (n c : Nat) (w : World) (hl : 20 < n) (he : Env w) :
    Calls Tryd.prog 6 #[.slice a n c] w fun e w' => e = .returned (.bool true) ∧ Below w.heap.size w w' := by
  have HE := Lib.hid he
  clear he
  go_enter Tryd.func6, Tryd.ntmps6
  go_wp2_with fail
  refine (works_ok _ HE.out).mono ?_
  rintro e w3 ⟨rfl, hb3⟩
  go_wp2
  go_ret
  exact ⟨rfl, hb3⟩
theorem aOrd_walk (a : Option Addr) (n c : Nat) (ls : List (List Int)) (w : World) (hu : Rows8 w a n ls) (he : Env w) :
    Calls Tryd.prog 6 #[.slice a n c] w fun e w' => e = .returned (.bool true) ∧ Below w.heap.size w w' := by
  by_cases h : n ≤ 20
  · exact aOrd_core a n c ls w h hu he
  · exact aOrd_long a n c w (by omega) he
end Go.Proofs.YtllfmancfkmimaaDoor
