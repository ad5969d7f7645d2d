/- The walk of the statement GensBack: it returns true for any three numbers. -/
import Derived.Test.YtkpgogleehmoaaaDoorLReads
import Derived.RegionTactic
namespace Go.Proofs.YtkpgogleehmoaaaDoor
open Go.RowKit

theorem Sent.below {w w' : World} (h : Sent w) (hb : Below w.heap.size w w') : Sent w' := by
  have key : ∀ (n : String) (cs : Array Value), w.var? Tryd.prog n = some cs → w'.var? Tryd.prog n = some cs := fun n cs hv => by
    cases hg : Tryd.prog.globalNamed n with
    | none => simp [World.var?, hg] at hv
    | some g =>
      refine var?_below hb hg ?_ hv
      rcases Nat.lt_or_ge g w.heap.size with h' | h'
      · exact h'
      · simp [World.var?, hg, Array.getElem?_eq_none h'] at hv
  obtain ⟨⟨t1, p1, h1⟩, ⟨t2, p2, h2⟩⟩ := h
  exact ⟨⟨t1, p1, key _ _ h1⟩, ⟨t2, p2, key _ _ h2⟩⟩

set_option maxHeartbeats 1000000 in
set_option maxRecDepth 100000 in
theorem back_core (g a : Int) (b : UInt8) (u k : Nat) (w : World) (hmax : max g 1 = (u : Int)) (hk : a % (((Lib.decDigits u).length : Int) + 1) = (k : Int)) (hk' : k ≤ (Lib.decDigits u).length) (h1 : 1 ≤ u) (h2 : u ≤ 4294967295) (ha : 0 ≤ a) (ha' : a ≤ 255) (he : Tab w ∧ Sent w) :
    Calls Tryd.prog 9 #[.int .u32 g, .int .u8 b.toNat, .int .u8 a] w fun e w' => e = .returned (.bool true) ∧ Below w.heap.size w w' := by
  have HE := Lib.hid he
  have hl := decBytes_size u h2
  have hl' : (Lib.decDigits u).length ≤ 20 := by simpa [ByteArray.size] using hl
  clear he hl
  go_enter Tryd.func9, Tryd.ntmps9
  go_wp2_with fail
  refine (text_ok u h1 h2 _ (.inr HE.out.1)).mono ?_
  rintro e w1 ⟨rfl, hb1⟩
  have HE1 := Lib.hid (HE.out.1.below hb1)
  go_wp2_with fail
  refine (parse_same u h1 h2 _ (.inr HE1.out)).mono ?_
  rintro e w2 ⟨rfl, hb2⟩
  have HE2 := Lib.hid (HE1.out.below hb2)
  go_wp2_with fail
  refine (format_any u h2 _ (.inr HE2.out)).mono ?_
  rintro e w3 ⟨rfl, hb3⟩
  go_wp2_with fail
  simp only [hk]
  clear hk
  have hb8 : (b.toNat : Int) ≤ 255 := by have := b.toNat_lt; omega
  have hcv : ∀ W : World, W.cell? ⟨w3.heap.size, 0, none⟩ = some (.int .u8 b.toNat) → (convert 44 9 (.slice (some ⟨w3.heap.size, 0, none⟩) 1 1)).run Tryd.prog W = .ok (.string ⟨#[b]⟩) W := fun W hW => by
    exact run_convert_bytes_back (P := Tryd.prog) W 44 9 5 ⟨w3.heap.size, 0, none⟩ 1 [b] Tryd.underlying44 Tryd.underlying5 Tryd.underlying9 (fun j hj => by
      obtain rfl : j = 0 := by simpa using hj
      simpa [Addr.add] using hW)
  go_region
  have hbel : Below w.heap.size w ((w3.alloc (.cells #[.int .u8 b.toNat] 5)).drew) := bel2 (bel2 (bel2 hb1 hb2) hb3) (((Below.refl _ _).alloc (Nat.le_refl _) _).trans ⟨rfl, rfl, rfl, Nat.le_refl _, fun _ _ => rfl⟩)
  have HE3 := Lib.hid (HE.out.1.below hbel)
  have HS3 := Lib.hid (HE.out.2.below hbel)
  have hlen : ((⟨(Lib.decDigits u).toArray⟩ : ByteArray).extract 0 k ++ ⟨#[b]⟩ ++ (⟨(Lib.decDigits u).toArray⟩ : ByteArray).extract k (Lib.decDigits u).length).data.toList.length = (Lib.decDigits u).length + 1 := by
    simp
    omega
  generalize (⟨(Lib.decDigits u).toArray⟩ : ByteArray).extract 0 k ++ ⟨#[b]⟩ ++ (⟨(Lib.decDigits u).toArray⟩ : ByteArray).extract k (Lib.decDigits u).length = s at hlen ⊢
  generalize (w3.alloc (.cells #[.int .u8 b.toNat] 5)).drew = w4 at hbel HE3 HS3 ⊢
  clear hcv hb8
  rcases gen_or s.data.toList with ⟨v, v1, v2, hv⟩ | hno
  · have hne : ((v : Int) != (u : Int)) = true := by
      rw [bne_iff_ne]
      intro e
      have : v = u := by omega
      subst this
      rw [hv] at hlen
      omega
    obtain rfl := bytes_of hv
    clear hv hlen
    go_wp2_with fail
    refine (parse_same v v1 v2 _ (.inr HE3.out)).mono ?_
    rintro e w5 ⟨rfl, hb5⟩
    go_wp2_with fail
    refine (text_ok v v1 v2 _ (.inr (HE3.out.below hb5))).mono ?_
    rintro e w6 ⟨rfl, hb6⟩
    go_wp2_with fail
    refine (works_ok _).mono ?_
    rintro e w7 ⟨rfl, hb7⟩
    go_wp2
    go_ret
    exact ⟨rfl, bel2 (bel2 (bel2 hbel hb5) hb6) hb7⟩
  · have HN := Lib.hid hno
    have hsz : s.size ≤ 140737488351232 := by
      have := Lib.size_eq s
      omega
    clear hno hlen
    go_wp2_with fail
    refine (parse_nogen s hsz HN.out _ ⟨HE3.out, HS3.out⟩).mono ?_
    rintro e w5 ⟨rfl, hb5⟩
    go_wp2_with fail
    refine (works_ok _).mono ?_
    rintro e w6 ⟨rfl, hb6⟩
    go_wp2
    go_ret
    exact ⟨rfl, bel2 (bel2 hbel hb5) hb6⟩

theorem back_walk (g c a : Int) (w : World) (hg : 0 ≤ g) (hg' : g ≤ 4294967295) (hc : 0 ≤ c) (hc' : c ≤ 255) (ha : 0 ≤ a) (ha' : a ≤ 255) (he : Tab w ∧ Sent w) :
    Calls Tryd.prog 9 #[.int .u32 g, .int .u8 c, .int .u8 a] w fun e w' => e = .returned (.bool true) ∧ Below w.heap.size w w' := by
  obtain ⟨u, hu⟩ : ∃ u : Nat, max g 1 = (u : Int) := ⟨(max g 1).toNat, by omega⟩
  obtain ⟨k, hk⟩ : ∃ k : Nat, a % (((Lib.decDigits u).length : Int) + 1) = (k : Int) := ⟨(a % (((Lib.decDigits u).length : Int) + 1)).toNat, by
    have := Int.emod_nonneg a (b := ((Lib.decDigits u).length : Int) + 1) (by omega)
    omega⟩
  have hk' : k ≤ (Lib.decDigits u).length := by
    have := Int.emod_lt_of_pos a (b := ((Lib.decDigits u).length : Int) + 1) (by omega)
    omega
  obtain ⟨b, rfl⟩ : ∃ b : UInt8, c = (b.toNat : Int) := ⟨UInt8.ofNat c.toNat, by rw [UInt8.toNat_ofNat']; omega⟩
  exact back_core g a b u k w hu hk hk' (by omega) (by omega) ha ha' he
end Go.Proofs.YtkpgogleehmoaaaDoor
