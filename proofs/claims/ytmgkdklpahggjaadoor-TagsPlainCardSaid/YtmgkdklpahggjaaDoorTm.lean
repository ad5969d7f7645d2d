/- Plain mathematics of UTF-8: the bytes of a rune, texts that are UTF-8 of given runes, and what the model's decoder gives on them. Nothing of the program. -/
import Derived.Lib.ValidLaws
import Derived.Lib.TrimUEq
import Derived.Lib.MapLaws
import Derived.Lib.Bytealg
namespace Go.Proofs.YtmgkdklpahggjaaDoor
open Go.Lib

/-- The bytes of a rune, in the shortest form. -/
def encR (r : Nat) : List UInt8 :=
  if r < 128 then [UInt8.ofNat r]
  else if r < 2048 then [UInt8.ofNat (192 + r / 64), UInt8.ofNat (128 + r % 64)]
  else if r < 65536 then [UInt8.ofNat (224 + r / 4096), UInt8.ofNat (128 + r / 64 % 64), UInt8.ofNat (128 + r % 64)]
  else [UInt8.ofNat (240 + r / 262144), UInt8.ofNat (128 + r / 4096 % 64), UInt8.ofNat (128 + r / 64 % 64), UInt8.ofNat (128 + r % 64)]
def OkRune (r : Nat) : Prop := r < 55296 ∨ (57344 ≤ r ∧ r ≤ 1114111)

theorem okRune_le {r : Nat} (h : OkRune r) : r ≤ 1114111 := by unfold OkRune at h; omega
theorem encR_1 {r : Nat} (h : r < 128) : encR r = [UInt8.ofNat r] := by unfold encR; rw [if_pos h]
theorem encR_2 {r : Nat} (h : 128 ≤ r) (h' : r < 2048) : encR r = [UInt8.ofNat (192 + r / 64), UInt8.ofNat (128 + r % 64)] := by
  unfold encR; rw [if_neg (by omega), if_pos h']
theorem encR_3 {r : Nat} (h : 2048 ≤ r) (h' : r < 65536) : encR r = [UInt8.ofNat (224 + r / 4096), UInt8.ofNat (128 + r / 64 % 64), UInt8.ofNat (128 + r % 64)] := by
  unfold encR; rw [if_neg (by omega), if_neg (by omega), if_pos h']
theorem encR_4 {r : Nat} (h : 65536 ≤ r) : encR r = [UInt8.ofNat (240 + r / 262144), UInt8.ofNat (128 + r / 4096 % 64), UInt8.ofNat (128 + r / 64 % 64), UInt8.ofNat (128 + r % 64)] := by
  unfold encR; rw [if_neg (by omega), if_neg (by omega), if_neg (by omega)]
theorem encR_length (r : Nat) : 1 ≤ (encR r).length ∧ (encR r).length ≤ 4 := by
  unfold encR; repeat' split
  all_goals simp
theorem encR_ne (r : Nat) : encR r ≠ [] := fun h => by have := (encR_length r).1; rw [h] at this; simp at this

theorem u8nat {n : Nat} (h : n < 256) : (UInt8.ofNat n).toNat = n := by simp [UInt8.toNat_ofNat']; omega

/-- The decoder reads a rune's bytes, whatever stands behind them. -/
theorem decodeL_enc (r : Nat) (h : OkRune r) (m : List UInt8) : decodeL (encR r ++ m) = (r, (encR r).length) := by
  have hle := okRune_le h
  rw [decodeL_N]
  unfold OkRune at h
  by_cases h1 : r < 128
  · rw [encR_1 h1]
    simp only [List.cons_append, List.nil_append, List.getD_cons_zero, List.length_cons, List.length_nil]
    rw [u8nat (by omega)]
    unfold decodeN
    rw [if_pos h1]
  by_cases h2 : r < 2048
  · rw [encR_2 (by omega) h2]
    simp only [List.cons_append, List.nil_append, List.getD_cons_zero, List.getD_cons_succ, List.length_cons, List.length_nil]
    rw [u8nat (n := 192 + r / 64) (by omega), u8nat (n := 128 + r % 64) (by omega)]
    unfold decodeN
    rw [if_neg (by omega), if_pos (by refine ⟨by omega, by omega, by omega⟩), if_pos (by omega)]
    congr 1; omega
  by_cases h3 : r < 65536
  · rw [encR_3 (by omega) h3]
    simp only [List.cons_append, List.nil_append, List.getD_cons_zero, List.getD_cons_succ, List.length_cons, List.length_nil]
    rw [u8nat (n := 224 + r / 4096) (by omega), u8nat (n := 128 + r / 64 % 64) (by omega), u8nat (n := 128 + r % 64) (by omega)]
    unfold decodeN
    rw [if_neg (by omega), if_neg (by omega), if_pos (by refine ⟨by omega, ⟨by omega, by omega⟩, by omega, by omega⟩), if_pos (by omega)]
    congr 1; omega
  · rw [encR_4 (by omega)]
    simp only [List.cons_append, List.nil_append, List.getD_cons_zero, List.getD_cons_succ, List.length_cons, List.length_nil]
    rw [u8nat (n := 240 + r / 262144) (by omega), u8nat (n := 128 + r / 4096 % 64) (by omega), u8nat (n := 128 + r / 64 % 64) (by omega), u8nat (n := 128 + r % 64) (by omega)]
    unfold decodeN
    rw [if_neg (by omega), if_neg (by omega), if_neg (by omega), if_pos (by refine ⟨by omega, ⟨by omega, by omega⟩, ⟨by omega, by omega⟩, by omega, by omega⟩), if_pos (by omega)]
    congr 1; omega

def bad (l : List UInt8) : Prop := decodeL l = (65533, 1)

theorem u8eq {a b : UInt8} (h : a.toNat = b.toNat) : a = b := UInt8.toNat_inj.1 h

set_option maxRecDepth 100000 in
/-- What the decoder accepts stands there. -/
theorem decodeL_good (l : List UInt8) (hne : l ≠ []) (hb : ¬ bad l) : ∃ r m, OkRune r ∧ l = encR r ++ m := by
  unfold bad at hb
  rw [decodeL_N] at hb
  match l, hne, hb with
  | [a], _, hb =>
    have ha := a.toNat_lt
    simp [decodeN] at hb
    by_cases h : a.toNat < 128
    · exact ⟨a.toNat, [], .inl (by omega), by rw [encR_1 h]; simp⟩
    · simp [h] at hb
  | a :: b :: t, _, hb =>
    have ha := a.toNat_lt
    have hbb := b.toNat_lt
    by_cases h : a.toNat < 128
    · exact ⟨a.toNat, b :: t, .inl (by omega), by rw [encR_1 h]; simp⟩
    · unfold decodeN at hb
      simp only [List.getD_cons_zero, List.getD_cons_succ, List.length_cons] at hb
      rw [if_neg h] at hb
      split at hb
      · rename_i h2
        split at hb
        · rename_i hc
          refine ⟨a.toNat % 32 * 64 + b.toNat % 64, t, .inl (by omega), ?_⟩
          rw [encR_2 (by omega) (by omega)]
          have e1 : UInt8.ofNat (192 + (a.toNat % 32 * 64 + b.toNat % 64) / 64) = a := u8eq (by rw [u8nat (by omega)]; omega)
          have e2 : UInt8.ofNat (128 + (a.toNat % 32 * 64 + b.toNat % 64) % 64) = b := u8eq (by rw [u8nat (by omega)]; omega)
          rw [e1, e2]; rfl
        · exact absurd rfl hb
      · split at hb
        · rename_i h2 h3
          cases t with
          | nil => exact absurd h3.2.2.1 (by simp)
          | cons c t =>
            have hcc := c.toNat_lt
            simp only [List.getD_cons_zero, List.length_cons] at hb h3
            split at hb
            · rename_i hv
              refine ⟨a.toNat % 16 * 4096 + b.toNat % 64 * 64 + c.toNat % 64, t, ?_, ?_⟩
              · unfold OkRune; omega
              · rw [encR_3 (by omega) (by omega)]
                have e1 : UInt8.ofNat (224 + (a.toNat % 16 * 4096 + b.toNat % 64 * 64 + c.toNat % 64) / 4096) = a := u8eq (by rw [u8nat (by omega)]; omega)
                have e2 : UInt8.ofNat (128 + (a.toNat % 16 * 4096 + b.toNat % 64 * 64 + c.toNat % 64) / 64 % 64) = b := u8eq (by rw [u8nat (by omega)]; omega)
                have e3 : UInt8.ofNat (128 + (a.toNat % 16 * 4096 + b.toNat % 64 * 64 + c.toNat % 64) % 64) = c := u8eq (by rw [u8nat (by omega)]; omega)
                rw [e1, e2, e3]; rfl
            · exact absurd rfl hb
        · split at hb
          · rename_i h2 h3 h4
            cases t with
            | nil => exact absurd h4.2.2.1.1 (by simp)
            | cons c t =>
             cases t with
             | nil => exact absurd h4.2.2.2.1 (by simp)
             | cons d t =>
              have hcc := c.toNat_lt
              have hdd := d.toNat_lt
              simp only [List.getD_cons_zero, List.getD_cons_succ, List.length_cons] at hb h4
              split at hb
              · rename_i hv
                refine ⟨a.toNat % 8 * 262144 + b.toNat % 64 * 4096 + c.toNat % 64 * 64 + d.toNat % 64, t, ?_, ?_⟩
                · unfold OkRune; omega
                · rw [encR_4 (by omega)]
                  have e1 : UInt8.ofNat (240 + (a.toNat % 8 * 262144 + b.toNat % 64 * 4096 + c.toNat % 64 * 64 + d.toNat % 64) / 262144) = a := u8eq (by rw [u8nat (by omega)]; omega)
                  have e2 : UInt8.ofNat (128 + (a.toNat % 8 * 262144 + b.toNat % 64 * 4096 + c.toNat % 64 * 64 + d.toNat % 64) / 4096 % 64) = b := u8eq (by rw [u8nat (by omega)]; omega)
                  have e3 : UInt8.ofNat (128 + (a.toNat % 8 * 262144 + b.toNat % 64 * 4096 + c.toNat % 64 * 64 + d.toNat % 64) / 64 % 64) = c := u8eq (by rw [u8nat (by omega)]; omega)
                  have e4 : UInt8.ofNat (128 + (a.toNat % 8 * 262144 + b.toNat % 64 * 4096 + c.toNat % 64 * 64 + d.toNat % 64) % 64) = d := u8eq (by rw [u8nat (by omega)]; omega)
                  rw [e1, e2, e3, e4]; rfl
              · exact absurd rfl hb
          · exact absurd rfl hb

theorem enc_not_bad (r : Nat) (h : OkRune r) (m : List UInt8) : ¬ bad (encR r ++ m) := by
  intro hb
  unfold bad at hb
  rw [decodeL_enc r h m] at hb
  have e1 : r = 65533 := congrArg Prod.fst hb
  have e2 : (encR r).length = 1 := congrArg Prod.snd hb
  subst e1
  rw [encR_3 (by omega) (by omega)] at e2
  simp at e2

/-! ### texts that are UTF-8 -/
/-- l is the UTF-8 of the runes rs. -/
def Utf (l : List UInt8) (rs : List Nat) : Prop := (∀ r ∈ rs, OkRune r) ∧ l = rs.flatMap encR
theorem utf_nil : Utf [] [] := ⟨by simp, rfl⟩
theorem utf_cons {r : Nat} {rs : List Nat} {m : List UInt8} (h : OkRune r) (hm : Utf m rs) : Utf (encR r ++ m) (r :: rs) :=
  ⟨fun x hx => (List.mem_cons.1 hx).elim (fun e => e ▸ h) (hm.1 x), by rw [hm.2]; rfl⟩
theorem utf_append {l m : List UInt8} {rs ts : List Nat} (hl : Utf l rs) (hm : Utf m ts) : Utf (l ++ m) (rs ++ ts) :=
  ⟨fun x hx => (List.mem_append.1 hx).elim (hl.1 x) (hm.1 x), by rw [hl.2, hm.2, List.flatMap_append]⟩
theorem utf_one {r : Nat} (h : OkRune r) : Utf (encR r) [r] := by have := utf_cons h utf_nil; rwa [List.append_nil] at this
theorem utf_nil_iff {rs : List Nat} (h : Utf [] rs) : rs = [] := by
  cases rs with
  | nil => rfl
  | cons r rs => have := h.2; simp only [List.flatMap_cons] at this; exact absurd (List.append_eq_nil_iff.1 this.symm).1 (encR_ne r)
theorem utf_inv {l : List UInt8} {r : Nat} {rs : List Nat} (h : Utf l (r :: rs)) : ∃ m, OkRune r ∧ l = encR r ++ m ∧ Utf m rs :=
  ⟨rs.flatMap encR, h.1 r (by simp), by rw [h.2]; rfl, fun x hx => h.1 x (by simp [hx]), rfl⟩
theorem utf_enc {r : Nat} {m : List UInt8} {rs : List Nat} (hr : OkRune r) (h : Utf (encR r ++ m) rs) : ∃ ts, rs = r :: ts ∧ Utf m ts := by
  cases rs with
  | nil => have := h.2; simp at this; exact absurd this.1 (encR_ne r)
  | cons x ts =>
    obtain ⟨k, hx, e, hk⟩ := utf_inv h
    have d1 := decodeL_enc r hr m
    have d2 := decodeL_enc x hx k
    rw [e] at d1
    rw [d1] at d2
    obtain rfl : r = x := congrArg Prod.fst d2
    exact ⟨ts, rfl, by rwa [List.append_cancel_left e]⟩
theorem utf_unique {l : List UInt8} {rs : List Nat} : ∀ {ts : List Nat}, Utf l rs → Utf l ts → rs = ts := by
  induction rs generalizing l with
  | nil => intro ts h h'; rw [show l = [] from h.2] at h'; exact (utf_nil_iff h').symm
  | cons r rs ih =>
    intro ts h h'
    obtain ⟨m, hr, rfl, hm⟩ := utf_inv h
    obtain ⟨us, rfl, hu⟩ := utf_enc hr h'
    rw [ih hm hu]
/-- A text whose beginning is UTF-8: the rest decides. -/
theorem utf_pre {l m : List UInt8} {rs us : List Nat} (hl : Utf l rs) (h : Utf (l ++ m) us) : ∃ ts, us = rs ++ ts ∧ Utf m ts := by
  induction rs generalizing l us with
  | nil => rw [show l = [] from hl.2] at h; exact ⟨us, rfl, h⟩
  | cons r rs ih =>
    obtain ⟨k, hr, rfl, hk⟩ := utf_inv hl
    rw [List.append_assoc] at h
    obtain ⟨ts, rfl, ht⟩ := utf_enc hr h
    obtain ⟨vs, rfl, hv⟩ := ih hk ht
    exact ⟨vs, rfl, hv⟩
theorem utf_head {l : List UInt8} {rs : List Nat} (h : Utf l rs) (hne : l ≠ []) : ¬ bad l := by
  cases rs with
  | nil => exact absurd h.2 hne
  | cons r rs => obtain ⟨m, hr, rfl, _⟩ := utf_inv h; exact enc_not_bad r hr m
theorem utf_bad {l m : List UInt8} {rs us : List Nat} (hl : Utf l rs) (hne : m ≠ []) (hb : bad m) : ¬ Utf (l ++ m) us := fun h => by
  obtain ⟨ts, _, ht⟩ := utf_pre hl h
  exact utf_head ht hne hb
theorem utf_len {l : List UInt8} {rs : List Nat} (h : Utf l rs) : rs.length ≤ l.length ∧ l.length ≤ 4 * rs.length := by
  induction rs generalizing l with
  | nil => rw [show l = [] from h.2]; simp
  | cons r rs ih => obtain ⟨m, hr, rfl, hm⟩ := utf_inv h; have := ih hm; have := encR_length r; simp; omega

theorem validD_enc (r : Nat) (h : OkRune r) (m : List UInt8) : validD (encR r ++ m) = validD m := by
  rw [validD_step _ (by simp [encR_ne]), decodeL_enc r h m]
  rw [if_neg]
  · simp
  · intro ⟨e1, e2⟩
    exact enc_not_bad r h m (by unfold bad; rw [decodeL_enc r h m]; simp only at e1 e2; rw [e2, e1])
theorem valid_of_utf {l : List UInt8} {rs : List Nat} (h : Utf l rs) : validD l = true := by
  induction rs generalizing l with
  | nil => rw [show l = [] from h.2]; rfl
  | cons r rs ih => obtain ⟨m, hr, rfl, hm⟩ := utf_inv h; rw [validD_enc r hr m]; exact ih hm
theorem utf_of_valid : ∀ (n : Nat) (l : List UInt8), l.length ≤ n → validD l = true → ∃ rs, Utf l rs := by
  intro n
  induction n with
  | zero => intro l hl _; rw [List.length_eq_zero_iff.1 (Nat.le_zero.1 hl)]; exact ⟨[], utf_nil⟩
  | succ n ih =>
    intro l hl hv
    by_cases hne : l = []
    · rw [hne]; exact ⟨[], utf_nil⟩
    by_cases hb : bad l
    · rw [validD_step l hne] at hv
      unfold bad at hb
      rw [hb] at hv
      simp at hv
    obtain ⟨r, m, hr, rfl⟩ := decodeL_good l hne hb
    rw [validD_enc r hr m] at hv
    have := (encR_length r).1
    obtain ⟨ts, ht⟩ := ih m (by simp at hl; omega) hv
    exact ⟨r :: ts, utf_cons hr ht⟩
theorem utf_dec (l : List UInt8) : (∃ rs, Utf l rs) ∨ (validD l = false ∧ ∀ rs, ¬ Utf l rs) := by
  by_cases h : validD l = true
  · exact .inl (utf_of_valid l.length l (Nat.le_refl _) h)
  · exact .inr ⟨by simpa using h, fun rs hr => h (valid_of_utf hr)⟩

/-- In the whole string, where a rune's bytes begin. -/
theorem decode_at_enc (s : ByteArray) (pre m : List UInt8) (r : Nat) (h : OkRune r) (e : s.data.toList = pre ++ (encR r ++ m)) : Utf8.decode s pre.length = (r, (encR r).length) := by
  rw [← decodeL_drop, e, List.drop_left]
  exact decodeL_enc r h m
end Go.Proofs.YtmgkdklpahggjaaDoor
