/- The contracts of the document's own numbers as texts: Digits and Number. -/
import Derived.Test.YtmbkhkijmfogcaaDoorDa
import Derived.Deep.RegionWith
import Derived.IntWalk
import Derived.Lib.Strings
import Derived.Test.YtmbkhkijmfogcaaDoorDm
namespace Go.Proofs.YtmbkhkijmfogcaaDoor
open Go.RowKit

theorem conv_one (T : TypeId) (W : World) (p : Nat) (b : UInt8) (hT : Tryd.prog.underlying T = some (.slice 5)) (hW : W.cell? ⟨p, 0, none⟩ = some (.int .u8 b.toNat)) :
    (convert T 9 (.slice (some ⟨p, 0, none⟩) 1 1)).run Tryd.prog W = .ok (.string ⟨#[b]⟩) W :=
  run_convert_bytes_back (P := Tryd.prog) W T 9 5 ⟨p, 0, none⟩ 1 [b] hT Tryd.underlying5 Tryd.underlying9 (fun j hj => by
    obtain rfl : j = 0 := by simpa using hj
    simpa [Addr.add] using hW)

theorem bytes_append (l : List UInt8) (b : UInt8) : (⟨l.toArray⟩ : ByteArray) ++ ⟨#[b]⟩ = ⟨(l ++ [b]).toArray⟩ := by
  apply ByteArray.ext
  simp

set_option maxHeartbeats 400000 in
theorem digits_one (u : Nat) (hu : u < 10) (w : World) :
    Calls Tryd.prog 44 #[.int .u64 u] w fun e w' => e = .returned (.string ⟨(Lib.decDigits u).toArray⟩) ∧ Below w.heap.size w w' := by
  rw [Lib.decDigits_one hu]
  have e8 : ((UInt8.ofNat (48 + u)).toNat : Int) = 48 + (u : Int) := by have := toNat_digit u hu; omega
  generalize UInt8.ofNat (48 + u) = b at e8 ⊢
  have hcv := fun (W : World) (p : Nat) (hW : W.cell? ⟨p, 0, none⟩ = some (.int .u8 b.toNat)) => conv_one 64 W p b Tryd.underlying64 hW
  rw [e8] at hcv
  clear e8
  go_enter Tryd.func44, Tryd.ntmps44
  go_wp2
  go_ret
  exact ⟨rfl, (Below.refl _ _).alloc (Nat.le_refl _) _⟩

theorem bel_a {w w1 : World} (h : Below w.drew.heap.size w.drew w1) (o : Obj) : Below w.heap.size w (w1.alloc o) :=
  (bel2 (bel_dr w) h).alloc h.size _
theorem bel_b {w w1 : World} {o : Obj} (h : Below (w.alloc o).drew.heap.size (w.alloc o).drew w1) : Below w.heap.size w w1 :=
  bel2 (bel2 ((Below.refl _ _).alloc (Nat.le_refl _) o) (bel_dr _)) h

set_option maxHeartbeats 1000000 in
theorem digits_more (u : Nat) (hu : ¬ u < 10) (hu' : u ≤ 9999999999) (w : World)
    (ih : ∀ W : World, Calls Tryd.prog 44 #[.int .u64 ((u : Int) / 10)] W fun e w' => e = .returned (.string ⟨(Lib.decDigits (u / 10)).toArray⟩) ∧ Below W.heap.size W w') :
    Calls Tryd.prog 44 #[.int .u64 u] w fun e w' => e = .returned (.string ⟨(Lib.decDigits u).toArray⟩) ∧ Below w.heap.size w w' := by
  have hd : Lib.decDigits u = Lib.decDigits (u / 10) ++ [UInt8.ofNat (48 + u % 10)] := by rw [Lib.decDigits, dif_neg hu]
  rw [hd, ← bytes_append]
  have e8 : ((UInt8.ofNat (48 + u % 10)).toNat : Int) = 48 + (u : Int) % 10 := by have := toNat_digit (u % 10) (by omega); omega
  generalize UInt8.ofNat (48 + u % 10) = b at e8 ⊢
  have hl : (Lib.decDigits (u / 10)).length ≤ 20 := by
    rw [Lib.decDigits_length]
    have := Lib.numDigits_eq (u / 10) (by omega) (by omega)
    split at this <;> omega
  generalize Lib.decDigits (u / 10) = l at ih hl ⊢
  have hcv := fun (W : World) (p : Nat) (hW : W.cell? ⟨p, 0, none⟩ = some (.int .u8 b.toNat)) => conv_one 64 W p b Tryd.underlying64 hW
  rw [e8] at hcv
  have HI := Lib.hid ih
  clear ih e8 hd
  have q1 : IntKind.u64.wrap ((u : Int) / 10) = (u : Int) / 10 := IntWalk.u64_in _ (by omega)
  have q2 : (u : Int).tmod 10 = (u : Int) % 10 := IntWalk.rem_in _ _ (by omega)
  have q3 : IntKind.u64.wrap (48 + (u : Int) % 10) = 48 + (u : Int) % 10 := IntWalk.u64_in _ (by omega)
  have q4 : IntKind.u8.wrap (48 + (u : Int) % 10) = 48 + (u : Int) % 10 := IntWalk.u8_in _ (by omega)
  go_enter Tryd.func44, Tryd.ntmps44
  go_wp2
  go_region_with (go_at_call 44; refine (HI.out _).mono ?_; rintro e w1 ⟨rfl, hb1⟩; obtain ⟨hcc, hff⟩ := bcell hb1; clear hff)
  all_goals
    clear q1 q2 q3 q4 hcc hcv
    go_wp2
    go_ret
    first
      | exact ⟨rfl, bel_a hb1 _⟩
      | exact ⟨rfl, bel_b hb1⟩

theorem digits_any (u : Nat) : ∀ (_ : u ≤ 9999999999) (w : World),
    Calls Tryd.prog 44 #[.int .u64 u] w fun e w' => e = .returned (.string ⟨(Lib.decDigits u).toArray⟩) ∧ Below w.heap.size w w' := by
  induction u using Nat.strongRecOn with
  | _ u ih =>
    intro hu w
    by_cases h : u < 10
    · exact digits_one u h w
    · refine digits_more u h hu w fun W => ?_
      have := ih (u / 10) (by omega) (by omega) W
      rwa [show (((u / 10 : Nat) : Int)) = (u : Int) / 10 by omega] at this

theorem take_snoc (s : ByteArray) (k : Nat) (h : k < s.size) : s.data.toList.take (k + 1) = s.data.toList.take k ++ [s[k]] := by
  rw [List.take_succ_eq_append_getElem (by simpa using h)]
  rfl

/-- What the document's Number comes to. -/
def NumRes (s : ByteArray) (e : Ending) : Prop :=
  (∃ n : Nat, n ≤ 9999999999 ∧ s.data.toList = Lib.decDigits n ∧ e = .returned (.tuple #[.int .u64 n, .bool true])) ∨
  (∃ n : Nat, n ≤ 9999999999 ∧ NoNum s.data.toList ∧ e = .returned (.tuple #[.int .u64 n, .bool false]))

def AllDigits (l : List UInt8) : Prop := ∀ c ∈ l, 48 ≤ c.toNat ∧ c.toNat ≤ 57

set_option maxHeartbeats 400000 in
theorem number_len (s : ByteArray) (w : World) (hs : s.size ≤ 140737488351232) (h : s.size = 0 ∨ 10 < s.size) :
    Calls Tryd.prog 47 #[.string s] w fun e w' => NumRes s e ∧ Below w.heap.size w w' := by
  have HN : Hid (NoNum s.data.toList) := nonum_len (by rw [← Lib.size_eq]; exact h)
  rcases h with h | h
  · have h0 : ((s.size : Int) == 0) = true := by rw [h]; rfl
    go_enter Tryd.func47, Tryd.ntmps47
    go_wp2
    go_ret2
    exact ⟨.inr ⟨0, by omega, HN.out, rfl⟩, Below.refl _ _⟩
  · have h0 : ((s.size : Int) == 0) = false := beq_eq_false_iff_ne.2 (by omega)
    go_enter Tryd.func47, Tryd.ntmps47
    go_wp2
    go_ret2
    exact ⟨.inr ⟨0, by omega, HN.out, rfl⟩, Below.refl _ _⟩

set_option maxHeartbeats 1000000 in
theorem number_loop (s : ByteArray) (w : World) (h1 : 1 ≤ s.size) (h2 : s.size ≤ 10) :
    Calls Tryd.prog 47 #[.string s] w fun e w' => NumRes s e ∧ Below w.heap.size w w' := by
  have h0 : ((s.size : Int) == 0) = false := beq_eq_false_iff_ne.2 (by omega)
  have hd0 : decide ((10 : Int) < (s.size : Int)) = false := decide_eq_false (by omega)
  go_enter Tryd.func47, Tryd.ntmps47
  go_wp2
  go_loop [4, 5] (fun n i => ∃ k : Nat, k ≤ s.size ∧ i = .int .i64 k ∧ n = .int .u64 (numOf (s.data.toList.take k)) ∧ AllDigits (s.data.toList.take k)) (fun _ i => s.size - (intOf i).toNat)
  case atStart => exact ⟨0, Nat.zero_le _, rfl, rfl, fun c hc => by simp at hc⟩
  case round =>
    obtain ⟨k, hk, rfl, rfl, had⟩ := hrel
    have HA := Lib.hid had
    have hnb : numOf (s.data.toList.take k) ≤ 9999999999 := numOf_small _ (fun c hc => (had c hc).2) (by simp; omega)
    clear had
    by_cases hlt : k < s.size
    · have HT := Lib.hid (take_snoc s k hlt)
      have hcm : s[k] ∈ s.data.toList := by
        have : s[k] ∈ s.data.toList.take (k + 1) := by rw [HT.out]; simp
        exact List.mem_of_mem_take this
      have HM := Lib.hid hcm
      clear hcm
      generalize hm : numOf (s.data.toList.take k) = m at hnb
      have Hm := Lib.hid hm
      clear hm
      go_wp2
      all_goals
        first
        | (have g : s[k].toNat < 48 ∨ 57 < s[k].toNat := by omega
           go_ret2
           exact ⟨.inr ⟨0, by omega, nonum_byte HM.out g, rfl⟩, Below.refl _ _⟩)
        | (have g : 48 ≤ s[k].toNat ∧ s[k].toNat ≤ 57 := by omega
           go_round
           case rel =>
             refine ⟨k + 1, by omega, by go_num, ?_, ?_⟩
             · rw [HT.out, numOf_snoc, Hm.out]
               congr 1
               omega
             · intro c hc
               rw [HT.out] at hc
               rcases List.mem_append.1 hc with hc | hc
               · exact HA.out c hc
               · rw [List.mem_singleton] at hc
                 subst hc
                 exact g
           case measure => simp [intOf]; omega)
    · have hks : k = s.size := by omega
      have htk : s.data.toList.take k = s.data.toList := List.take_of_length_le (by rw [← Lib.size_eq]; omega)
      rw [htk] at hnb ⊢
      clear htk HA
      by_cases heq : Lib.decDigits (numOf s.data.toList) = s.data.toList
      · have he : (Lib.decDigits (numOf s.data.toList) == s.toList) = true := by rw [beq_iff_eq, ByteArray.toList_eq]; exact heq
        have HQ := Lib.hid heq
        have HE := Lib.hid he
        clear heq he
        generalize numOf s.data.toList = m at *
        go_wp2_with fail
        refine (digits_any m hnb _).mono ?_
        rintro e w1 ⟨rfl, hb1⟩
        have he := HE.out
        go_wp2
        go_ret2
        exact ⟨.inl ⟨m, hnb, HQ.out.symm, rfl⟩, hb1⟩
      · have he : (Lib.decDigits (numOf s.data.toList) == s.toList) = false := by rw [beq_eq_false_iff_ne, ByteArray.toList_eq]; exact heq
        have HQ := Lib.hid (nonum_other heq)
        have HE := Lib.hid he
        clear heq he
        generalize numOf s.data.toList = m at *
        go_wp2_with fail
        refine (digits_any m hnb _).mono ?_
        rintro e w1 ⟨rfl, hb1⟩
        have he := HE.out
        go_wp2
        go_ret2
        exact ⟨.inr ⟨m, hnb, HQ.out, rfl⟩, hb1⟩
end Go.Proofs.YtmbkhkijmfogcaaDoor
