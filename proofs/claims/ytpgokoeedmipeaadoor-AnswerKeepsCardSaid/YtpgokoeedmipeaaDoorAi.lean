/- Cases of the program's Peek. -/
import Derived.Test.YtpgokoeedmipeaaDoorAg
namespace Go.Proofs.YtpgokoeedmipeaaDoor
open Go.RowKit

set_option maxRecDepth 100000 in
set_option maxHeartbeats 4000000 in
theorem peekc_sa (b N c : Nat) (n : Int) (a : Addr) (_ : c ≤ 9223372036854775807) (h2 : ((N : Int) < n) = False) (h3 : (0 < n) = False) (w : World) (R : Ending → World → Prop) (hc0 : w.cell? ⟨b, 0, none⟩ = some (.bool true)) (hc1 : w.cell? ⟨b, 1, none⟩ = some (.slice (some a) N c))
    (HCL : Hid (∀ W : World, W.heap = w.heap → W.os = w.os → W.tape = w.tape → W.output = w.output → Calls Tryd.prog 17 #[.slice (some a) 0 c] W fun e w' => ∃ v, e = .returned v ∧ R e w' ∧ w'.cell? ⟨b, 1, none⟩ = some (.slice (some a) N c))) :
    Calls Tryd.prog 9 #[.pointer (some ⟨b, 0, none⟩), .int .i64 n] w R := by
  go_enter Tryd.func9, Tryd.ntmps9
  go_wp2_with (go_at_call 15; refine (valid_yes _ _ hc0).mono ?_; rintro e w' ⟨rfl, rfl⟩)
  clear hc0
  go_region_held3 (fun W => W.cell? ⟨b, 1, none⟩ = some (.slice (some a) N c)) (first | exact hc1 | exact hz1)
    (first | (go_at_call 17; refine (HCL.out _ (by rfl) (by rfl) (by rfl) (by rfl)).mono ?_; rintro e w1 ⟨v, rfl, h3, hz1⟩; have HV := Lib.hid h3; clear h3))
  all_goals
    go_wp2
    exact HV.out
set_option maxRecDepth 100000 in
set_option maxHeartbeats 4000000 in
theorem peekc_sb (b c : Nat) (a : Addr) (_ : c ≤ 9223372036854775807)  (w : World) (R : Ending → World → Prop) (hc0 : w.cell? ⟨b, 0, none⟩ = some (.bool true)) (hc1 : w.cell? ⟨b, 1, none⟩ = some (.slice (some a) 0 c))
    (HCL : Hid (∀ W : World, W.heap = w.heap → W.os = w.os → W.tape = w.tape → W.output = w.output → Calls Tryd.prog 17 #[.slice (some a) 0 c] W fun e w' => ∃ v, e = .returned v ∧ R e w' ∧ w'.cell? ⟨b, 1, none⟩ = some (.slice (some a) 0 c))) :
    Calls Tryd.prog 9 #[.pointer (some ⟨b, 0, none⟩), .int .i64 0] w R := by
  go_enter Tryd.func9, Tryd.ntmps9
  go_wp2_with (go_at_call 15; refine (valid_yes _ _ hc0).mono ?_; rintro e w' ⟨rfl, rfl⟩)
  clear hc0
  go_region_held3 (fun W => W.cell? ⟨b, 1, none⟩ = some (.slice (some a) 0 c)) (first | exact hc1 | exact hz1)
    (first | (go_at_call 17; refine (HCL.out _ (by rfl) (by rfl) (by rfl) (by rfl)).mono ?_; rintro e w1 ⟨v, rfl, h3, hz1⟩; have HV := Lib.hid h3; clear h3))
  all_goals
    go_wp2
    exact HV.out
set_option maxRecDepth 100000 in
set_option maxHeartbeats 4000000 in
theorem peekc_sd (b N c : Nat) (a : Addr) (_ : c ≤ 9223372036854775807) (h1 : ((N : Int) < 0) = False) (w : World) (R : Ending → World → Prop) (hc0 : w.cell? ⟨b, 0, none⟩ = some (.bool true)) (hc1 : w.cell? ⟨b, 1, none⟩ = some (.slice (some a) N c))
    (HCL : Hid (∀ W : World, W.heap = w.heap → W.os = w.os → W.tape = w.tape → W.output = w.output → Calls Tryd.prog 17 #[.slice (some a) 0 c] W fun e w' => ∃ v, e = .returned v ∧ R e w' ∧ w'.cell? ⟨b, 1, none⟩ = some (.slice (some a) N c))) :
    Calls Tryd.prog 9 #[.pointer (some ⟨b, 0, none⟩), .int .i64 0] w R := by
  go_enter Tryd.func9, Tryd.ntmps9
  go_wp2_with (go_at_call 15; refine (valid_yes _ _ hc0).mono ?_; rintro e w' ⟨rfl, rfl⟩)
  clear hc0
  go_region_held3 (fun W => W.cell? ⟨b, 1, none⟩ = some (.slice (some a) N c)) (first | exact hc1 | exact hz1)
    (first | (go_at_call 17; refine (HCL.out _ (by rfl) (by rfl) (by rfl) (by rfl)).mono ?_; rintro e w1 ⟨v, rfl, h3, hz1⟩; have HV := Lib.hid h3; clear h3))
  all_goals
    go_wp2
    exact HV.out
set_option maxRecDepth 100000 in
set_option maxHeartbeats 4000000 in
theorem peekc_sc (b N n c : Nat) (a : Addr) (_ : c ≤ 9223372036854775807) (h1 : 0 < n) (h2 : ¬ N < n) (h3 : n ≤ c) (w : World) (R : Ending → World → Prop) (hc0 : w.cell? ⟨b, 0, none⟩ = some (.bool true)) (hc1 : w.cell? ⟨b, 1, none⟩ = some (.slice (some a) N c))
    (HCL : Hid (∀ W : World, W.heap = w.heap → W.os = w.os → W.tape = w.tape → W.output = w.output → Calls Tryd.prog 17 #[.slice (some a) n c] W fun e w' => ∃ v, e = .returned v ∧ R e w' ∧ w'.cell? ⟨b, 1, none⟩ = some (.slice (some a) N c))) :
    Calls Tryd.prog 9 #[.pointer (some ⟨b, 0, none⟩), .int .i64 n] w R := by
  go_enter Tryd.func9, Tryd.ntmps9
  go_wp2_with (go_at_call 15; refine (valid_yes _ _ hc0).mono ?_; rintro e w' ⟨rfl, rfl⟩)
  clear hc0
  go_region_held3 (fun W => W.cell? ⟨b, 1, none⟩ = some (.slice (some a) N c)) (first | exact hc1 | exact hz1)
    (first | (go_at_call 17; refine (HCL.out _ (by rfl) (by rfl) (by rfl) (by rfl)).mono ?_; rintro e w1 ⟨v, rfl, h3, hz1⟩; have HV := Lib.hid h3; clear h3))
  all_goals
    go_wp2
    exact HV.out
set_option maxRecDepth 100000 in
set_option maxHeartbeats 4000000 in
theorem peekc_se (b N c : Nat) (a : Addr) (_ : c ≤ 9223372036854775807) (hN : N ≤ c) (h1 : 0 < N) (w : World) (R : Ending → World → Prop) (hc0 : w.cell? ⟨b, 0, none⟩ = some (.bool true)) (hc1 : w.cell? ⟨b, 1, none⟩ = some (.slice (some a) N c))
    (HCL : Hid (∀ W : World, W.heap = w.heap → W.os = w.os → W.tape = w.tape → W.output = w.output → Calls Tryd.prog 17 #[.slice (some a) N c] W fun e w' => ∃ v, e = .returned v ∧ R e w' ∧ w'.cell? ⟨b, 1, none⟩ = some (.slice (some a) N c))) :
    Calls Tryd.prog 9 #[.pointer (some ⟨b, 0, none⟩), .int .i64 N] w R := by
  go_enter Tryd.func9, Tryd.ntmps9
  go_wp2_with (go_at_call 15; refine (valid_yes _ _ hc0).mono ?_; rintro e w' ⟨rfl, rfl⟩)
  clear hc0
  go_region_held3 (fun W => W.cell? ⟨b, 1, none⟩ = some (.slice (some a) N c)) (first | exact hc1 | exact hz1)
    (first | (go_at_call 17; refine (HCL.out _ (by rfl) (by rfl) (by rfl) (by rfl)).mono ?_; rintro e w1 ⟨v, rfl, h3, hz1⟩; have HV := Lib.hid h3; clear h3))
  all_goals
    go_wp2
    exact HV.out
end Go.Proofs.YtpgokoeedmipeaaDoor
