/- Objects as the statements know them: which names are there, which are gone, what the fields are. Plain mathematics. -/
import Derived.Test.YtfnhkapbfgofkaaWx
import Derived.Test.YtfnhkapbfgofkaaWv
namespace Go.Proofs.Ytfnhkapbfgofkaa

/-- The fields that an object has. -/
def Ob.flds (o : Ob) : List Rf := o.fs.take o.n.toNat
theorem flds_len {o : Ob} (h : Poss o) : (o.flds.length : Int) = o.n := by
  have := h.n0
  have := h.n4
  unfold Ob.flds Ob.fs
  rw [List.length_take]
  simp only [List.length_cons, List.length_nil]
  omega
theorem flds_at {o : Ob} {j : Nat} (hj : j < o.flds.length) : o.flds[j]? = some (o.fld j) := by
  unfold Ob.flds at hj ⊢
  rw [List.length_take] at hj
  have h4 : o.fs.length = 4 := rfl
  rw [List.getElem?_take_of_lt (by omega), fs_at o j (by omega)]
theorem flds_upd {o : Ob} (h : Poss o) {j : Nat} (hj : j < o.flds.length) (v : Rf) : (o.upd v j).flds = o.flds.set j v := by
  have hl := flds_len h
  have h4 := h.n4
  have hn : (o.upd v j).n = o.n := (upd_n o v j).1
  refine List.ext_getElem? fun i => ?_
  rw [List.getElem?_set]
  have hl2 : (o.upd v j).flds.length = o.flds.length := by unfold Ob.flds; rw [hn, List.length_take, List.length_take]; rfl
  by_cases hi : i < o.flds.length
  · rw [flds_at (by rw [hl2]; exact hi)]
    by_cases e : j = i
    · subst e; rw [if_pos rfl, if_pos hj, upd_same]
    · rw [if_neg e, flds_at hi, upd_ne _ _ _ _ (by omega) (by omega) (fun e2 => e e2.symm)]
  · rw [List.getElem?_eq_none (by omega)]
    by_cases e : j = i
    · omega
    · rw [if_neg e, List.getElem?_eq_none (by omega)]
theorem flds_mk {m : Int} {h : Bool} (hm : 0 ≤ m) (h4 : m ≤ 4) : (mk m h).flds = List.replicate m.toNat (0, 0) := by
  unfold Ob.flds
  have e : (mk m h).fs = List.replicate 4 (0, 0) := rfl
  rw [e, List.take_replicate]
  congr 1
  show min m.toNat 4 = m.toNat
  omega
def setN (N : Nat × Nat → Option (List Rf)) (r : Nat × Nat) (l : List Rf) : Nat × Nat → Option (List Rf) := fun x => if x = r then some l else N x
theorem setN_same (N : Nat × Nat → Option (List Rf)) (r : Nat × Nat) (l : List Rf) : setN N r l r = some l := if_pos rfl
theorem setN_other {N : Nat × Nat → Option (List Rf)} {r x : Nat × Nat} {l : List Rf} (h : x ≠ r) : setN N r l x = N x := if_neg h
/-- A name by its numbers. -/
def ro (r : Nat × Nat) : Rf := ((r.1 : Int), (r.2 : Int))
structure Mo (H : Hp) (n f k : Nat) (R Q : List (Nat × Nat)) (N : Nat × Nat → Option (List Rf)) : Prop where
  ok : H.Ok
  nn : H.t.n = n
  nod : R.Nodup
  mem : ∀ r ∈ R, r.1 < n ∧ H.t.s r.1 = 1 ∧ r.2 = H.t.g r.1
  all : ∀ i, i < n → H.t.s i = 1 → (i, H.t.g i) ∈ R
  val : ∀ r ∈ R, N r = some (H.o r.1).flds
  was : ∀ r l, N r = some l → H.t.Was r
  gone : ∀ r ∈ Q, r.1 < n ∧ (r.2 < H.t.g r.1 ∨ (r.2 = H.t.g r.1 ∧ H.t.s r.1 = 2))
  lo : ∀ i, i < n → f ≤ H.t.g i
  hi : ∀ i, i < n → H.t.g i ≤ f + k
  ret : ∀ i, i < n → H.t.s i = 2 → H.t.g i = 4294967295
  rl : R.length ≤ k
  ql : Q.length ≤ k
theorem Mo.fresh {n f : Nat} (h1 : 1 ≤ n) (h2 : n ≤ 256) (h3 : 1 ≤ f) (h4 : f ≤ 4294967295) : Mo (hfresh n f) n f 0 [] [] (fun _ => none) where
  ok := hfresh_ok h1 h2 h3 h4
  nn := rfl
  nod := List.nodup_nil
  mem r h := by simp at h
  all i _ h := by have : (hfresh n f).t.s i = 0 := rfl; omega
  val r h := by simp at h
  was r l h := by cases h
  gone r h := by simp at h
  lo i hi := by have : (hfresh n f).t.g i = f := if_pos hi; omega
  hi i hi := by have : (hfresh n f).t.g i = f := if_pos hi; omega
  ret i _ h := by have : (hfresh n f).t.s i = 0 := rfl; omega
  rl := Nat.le_refl _
  ql := Nat.le_refl _
section
variable {H : Hp} {n f k : Nat} {R Q : List (Nat × Nat)} {N : Nat × Nat → Option (List Rf)}
theorem Mo.keep (h : Mo H n f k R Q N) : Mo H n f (k + 1) R Q N :=
  ⟨h.ok, h.nn, h.nod, h.mem, h.all, h.val, h.was, h.gone, h.lo, fun i hi => Nat.le_trans (h.hi i hi) (by omega), h.ret, Nat.le_succ_of_le h.rl, Nat.le_succ_of_le h.ql⟩
theorem Mo.perm (h : Mo H n f k R Q N) : (R.map (·.1)).Perm H.t.held := by
  have nd : (R.map (·.1)).Nodup := by
    refine List.pairwise_map.2 (h.nod.imp_of_mem fun {a b} ha hb hne e => hne ?_)
    obtain ⟨_, _, h1⟩ := h.mem a ha
    obtain ⟨_, _, h2⟩ := h.mem b hb
    exact Prod.ext e (by rw [h1, h2, e])
  refine (List.perm_ext_iff_of_nodup nd ?_).2 fun i => ?_
  · exact (sel_sorted H.t.s 1 H.t.n).imp fun h => Nat.ne_of_lt h
  · rw [List.mem_map]
    constructor
    · rintro ⟨r, hr, rfl⟩
      obtain ⟨h1, h2, _⟩ := h.mem r hr
      exact mem_sel.2 ⟨by rw [h.nn]; exact h1, h2⟩
    · intro hi
      obtain ⟨h1, h2⟩ := mem_sel.1 hi
      exact ⟨(i, H.t.g i), h.all i (by rw [← h.nn]; exact h1) h2, rfl⟩
theorem Mo.len (h : Mo H n f k R Q N) : R.length = H.t.held.length := by
  have := h.perm.length_eq
  simpa using this
theorem Mo.chk (h : Mo H n f k R Q N) {r : Nat × Nat} (hr : r ∈ R) : H.chk (ro r) = 0 := by
  obtain ⟨h1, h2, h3⟩ := h.mem r hr
  exact Hp.chk_is (by rw [h.nn]; exact h1) h2 (by rw [← h3])
theorem Mo.poss (h : Mo H n f k R Q N) {r : Nat × Nat} (hr : r ∈ R) : Poss (H.o r.1) := by
  obtain ⟨h1, h2, _⟩ := h.mem r hr
  exact h.ok.o r.1 (by rw [h.nn]; exact h1) h2
theorem Mo.stale (h : Mo H n f k R Q N) {r : Nat × Nat} (hr : r ∈ Q) : H.chk (ro r) = 7 := by
  obtain ⟨h1, h2⟩ := h.gone r hr
  have hn := h.nn
  show H.t.chk (r.1 : Int) (r.2 : Int) = 7
  unfold Tb.chk
  rw [if_neg (by omega), Int.toNat_natCast, if_neg]
  rintro ⟨h3, h4⟩
  rcases h2 with h2 | ⟨h2, h5⟩ <;> omega
theorem Mo.new (h : Mo H n f k R Q N) {i : Nat} (hs : H.t.s i = 0) : N (i, H.t.g i) = none := by
  cases c : N (i, H.t.g i) with
  | none => rfl
  | some l =>
    obtain ⟨_, h2⟩ := h.was _ _ c
    simp only [hs] at h2
    omega
theorem Mo.make (h : Mo H n f k R Q N) {i : Nat} {t : List Nat} {m : Int} {b : Bool} (hf : H.t.free = i :: t) (hp : Poss (Go.Proofs.Ytfnhkapbfgofkaa.mk m b)) :
    Mo ⟨H.t.took i, putO H.o i (Go.Proofs.Ytfnhkapbfgofkaa.mk m b)⟩ n f (k + 1) (R ++ [(i, H.t.g i)]) Q (setN N (i, H.t.g i) (Go.Proofs.Ytfnhkapbfgofkaa.mk m b).flds) := by
  obtain ⟨hi, hs⟩ := Tb.free_lt hf
  have hn := h.nn
  have es : ∀ q, (H.t.took i).s q = if q = i then 1 else H.t.s q := fun q => rfl
  have hne : ∀ r ∈ R, r.1 ≠ i := fun r hr e => by have := (h.mem r hr).2.1; rw [e] at this; omega
  refine ⟨h.ok.took hp, h.nn, ?_, fun r hr => ?_, fun q hq hq1 => ?_, fun r hr => ?_, fun r l hN => ?_, fun r hr => ?_, h.lo, fun q hq => Nat.le_trans (h.hi q hq) (by omega), fun q hq h2 => ?_, ?_, Nat.le_succ_of_le h.ql⟩
  · rw [List.nodup_append]
    refine ⟨h.nod, by simp, fun a ha c hc e => ?_⟩
    simp at hc
    exact hne a ha (by rw [e, hc])
  · show r.1 < n ∧ (H.t.took i).s r.1 = 1 ∧ r.2 = H.t.g r.1
    rw [es]
    rcases List.mem_append.1 hr with hr | hr
    · rw [if_neg (hne r hr)]; exact h.mem r hr
    · simp at hr; subst hr
      simp only [if_pos]
      exact ⟨by omega, trivial, trivial⟩
  · have hq1' : (H.t.took i).s q = 1 := hq1
    rw [es] at hq1'
    by_cases c : q = i
    · subst c; exact List.mem_append.2 (.inr (by simp [Tb.took]))
    · rw [if_neg c] at hq1'
      exact List.mem_append.2 (.inl (h.all q hq hq1'))
  · show setN N (i, H.t.g i) _ r = some (putO H.o i _ r.1).flds
    rcases List.mem_append.1 hr with hr | hr
    · rw [setN_other (fun e => hne r hr (by rw [e])), putO_other (hne r hr)]; exact h.val r hr
    · simp at hr; subst hr
      rw [setN_same, putO_same]
  · by_cases c : r = (i, H.t.g i)
    · subst c; exact ⟨hi, .inr ⟨rfl, by show (H.t.took i).s i ≠ 0; rw [es, if_pos rfl]; decide⟩⟩
    · rw [setN_other c] at hN
      exact (h.was r l hN).took i
  · obtain ⟨h1, h2⟩ := h.gone r hr
    refine ⟨h1, h2.imp id fun ⟨a, b⟩ => ⟨a, ?_⟩⟩
    show (H.t.took i).s r.1 = 2
    rw [es, if_neg (fun e => by rw [e] at b; omega)]; exact b
  · have h2' : (H.t.took i).s q = 2 := h2
    rw [es] at h2'
    by_cases c : q = i
    · rw [if_pos c] at h2'; omega
    · rw [if_neg c] at h2'; exact h.ret q hq h2'
  · rw [List.length_append]; have := h.rl; simp; exact this
theorem Mo.free (h : Mo H n f k R Q N) {y : Nat} {r : Nat × Nat} (hr : R[y]? = some r) : Mo (H.freed (ro r)) n f (k + 1) (R.eraseIdx y) (Q ++ [r]) N := by
  have hm := List.mem_of_getElem? hr
  obtain ⟨h1, h2, h3⟩ := h.mem r hm
  have hn := h.nn
  have hc := h.chk hm
  have et : (H.freed (ro r)).t = H.t.gave r.1 := by
    show H.t.given (r.1 : Int) (r.2 : Int) = _
    unfold Tb.given
    rw [if_pos (show H.t.chk (r.1 : Int) (r.2 : Int) = 0 from hc), Int.toNat_natCast]
  have hg1 := h.ok.t.g1 r.1 (by omega)
  have hin : ∀ x, x ∈ R.eraseIdx y → x ∈ R ∧ x ≠ r := fun x hx => by
    refine ⟨(List.eraseIdx_sublist R y).subset hx, ?_⟩
    rintro rfl
    obtain ⟨hy, e⟩ := List.getElem?_eq_some_iff.1 hr
    obtain ⟨z, hz, e2⟩ := List.mem_iff_getElem.1 hx
    have hz2 := hz
    rw [List.length_eraseIdx] at hz2
    rw [if_pos hy] at hz2
    rw [List.getElem_eraseIdx] at e2
    have hnd := List.pairwise_iff_getElem.1 h.nod
    split at e2
    · exact hnd z y (by omega) hy (by omega) (e2.trans e.symm)
    · exact hnd y (z + 1) hy (by omega) (by omega) (e.trans e2.symm)
  have hout : ∀ x, x ∈ R → x ≠ r → x ∈ R.eraseIdx y := fun x hx hne => by
    obtain ⟨z, hz, rfl⟩ := List.mem_iff_getElem.1 hx
    obtain ⟨hy, e⟩ := List.getElem?_eq_some_iff.1 hr
    have hzy : z ≠ y := fun e2 => hne (by subst e2; exact e)
    rw [List.mem_iff_getElem]
    by_cases c : z < y
    · exact ⟨z, by rw [List.length_eraseIdx, if_pos hy]; omega, by rw [List.getElem_eraseIdx, dif_pos c]⟩
    · refine ⟨z - 1, by rw [List.length_eraseIdx, if_pos hy]; omega, ?_⟩
      rw [List.getElem_eraseIdx, dif_neg (by omega)]
      congr 1; omega
  have hslot : ∀ x ∈ R, x ≠ r → x.1 ≠ r.1 := fun x hx hne e => hne (Prod.ext e (by rw [(h.mem x hx).2.2, h3, e]))
  have hs_o : ∀ q, q ≠ r.1 → (H.t.gave r.1).s q = H.t.s q := fun q hq => by unfold Tb.gave; split <;> exact put_other hq
  have hg_o : ∀ q, q ≠ r.1 → (H.t.gave r.1).g q = H.t.g q := fun q hq => by
    unfold Tb.gave; split
    · rfl
    · exact put_other hq
  have hs_r : (H.t.gave r.1).s r.1 ≠ 1 := by unfold Tb.gave; split <;> (simp only [put_same]; decide)
  have hg_r : (H.t.g r.1 = 4294967295 ∧ (H.t.gave r.1).g r.1 = 4294967295 ∧ (H.t.gave r.1).s r.1 = 2) ∨ ((H.t.gave r.1).g r.1 = H.t.g r.1 + 1 ∧ (H.t.gave r.1).s r.1 = 0) := by
    unfold Tb.gave
    by_cases c : H.t.g r.1 = 4294967295
    · rw [if_pos c]; exact .inl ⟨c, c, put_same _ _ _⟩
    · rw [if_neg c]; exact .inr ⟨put_same _ _ _, put_same _ _ _⟩
  refine ⟨h.ok.freed _, by rw [Hp.freed_n]; exact hn, h.nod.sublist (List.eraseIdx_sublist R y), fun x hx => ?_, fun q hq hq1 => ?_, fun x hx => ?_, fun x l hN => ?_, fun x hx => ?_, fun q hq => ?_, fun q hq => ?_, fun q hq h2 => ?_, ?_, ?_⟩
  · obtain ⟨hx1, hx2⟩ := hin x hx
    have hsl := hslot x hx1 hx2
    rw [et, hs_o _ hsl, hg_o _ hsl]
    exact h.mem x hx1
  · rw [et] at hq1 ⊢
    have c : q ≠ r.1 := fun e => by rw [e] at hq1; exact hs_r hq1
    rw [hs_o _ c] at hq1
    rw [hg_o _ c]
    exact hout _ (h.all q hq hq1) fun e => c (by rw [← e])
  · obtain ⟨hx1, hx2⟩ := hin x hx
    exact h.val x hx1
  · rw [et]; exact (h.was x l hN).gave h2
  · rw [et]
    rcases List.mem_append.1 hx with hx | hx
    · obtain ⟨a1, a2⟩ := h.gone x hx
      refine ⟨a1, ?_⟩
      by_cases c : x.1 = r.1
      · rcases a2 with a2 | ⟨a2, a3⟩
        · left
          rw [c] at a2 ⊢
          rcases hg_r with ⟨b1, b2, _⟩ | ⟨b1, _⟩ <;> omega
        · rw [c] at a3; omega
      · rw [hs_o _ c, hg_o _ c]; exact a2
    · simp at hx; subst hx
      refine ⟨h1, ?_⟩
      rcases hg_r with ⟨b1, b2, b3⟩ | ⟨b1, _⟩
      · exact .inr ⟨by omega, b3⟩
      · exact .inl (by omega)
  · rw [et]
    by_cases c : q = r.1
    · subst c; have := h.lo _ h1; rcases hg_r with ⟨b1, b2, _⟩ | ⟨b1, _⟩ <;> omega
    · rw [hg_o _ c]; exact h.lo q hq
  · rw [et]
    by_cases c : q = r.1
    · subst c; have := h.hi _ h1; rcases hg_r with ⟨b1, b2, _⟩ | ⟨b1, _⟩ <;> omega
    · rw [hg_o _ c]; exact Nat.le_trans (h.hi q hq) (by omega)
  · rw [et] at h2 ⊢
    by_cases c : q = r.1
    · subst c
      rcases hg_r with ⟨_, b2, _⟩ | ⟨_, b2⟩
      · exact b2
      · omega
    · rw [hs_o _ c] at h2; rw [hg_o _ c]; exact h.ret q hq h2
  · have := (List.eraseIdx_sublist R y).length_le; have := h.rl; omega
  · rw [List.length_append]; have := h.ql; simp; exact this
theorem Mo.store (h : Mo H n f k R Q N) {r : Nat × Nat} (hr : r ∈ R) {j : Nat} (hj : j < (H.o r.1).flds.length) {v : Rf} (hv : RfOk v) : Mo ⟨H.t, putO H.o r.1 ((H.o r.1).upd v j)⟩ n f (k + 1) R Q (setN N r ((H.o r.1).flds.set j v)) := by
  have hp := h.poss hr
  have hl := flds_len hp
  have hslot : ∀ x ∈ R, x ≠ r → x.1 ≠ r.1 := fun x hx hne e => hne (Prod.ext e (by rw [(h.mem x hx).2.2, (h.mem r hr).2.2, e]))
  refine ⟨h.ok.repl (hp.upd hv (by omega)), h.nn, h.nod, h.mem, h.all, fun x hx => ?_, fun x l hN => ?_, h.gone, h.lo, fun q hq => Nat.le_trans (h.hi q hq) (by omega), h.ret, Nat.le_succ_of_le h.rl, Nat.le_succ_of_le h.ql⟩
  · show setN N r _ x = some (putO H.o r.1 _ x.1).flds
    by_cases c : x = r
    · subst c; rw [setN_same, putO_same, flds_upd hp hj]
    · rw [setN_other c, putO_other (hslot x hx c)]; exact h.val x hx
  · by_cases c : x = r
    · subst c; exact h.was x _ (h.val x hr)
    · rw [setN_other c] at hN; exact h.was x l hN
end
end Go.Proofs.Ytfnhkapbfgofkaa
