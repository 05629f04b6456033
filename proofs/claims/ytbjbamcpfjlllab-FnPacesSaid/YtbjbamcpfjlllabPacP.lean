/-
  FnPaces in plain lists: the play of two paces over wires of fixed delays, and what comes of it for the delays 1 to 8. No walk of the program.
-/
import Derived.Test.YtbjbamcpfjlllabHear
import Derived.Test.YtbjbamcpfjlllabStamp
import Derived.Test.YtbjbamcpfjlllabAdv
import Derived.Test.YtbjbamcpfjlllabWait
namespace Go.Proofs.Ytbjbamcpfjlllab
open Go.RowKit
set_option linter.all false
structure Play where
  a : Pc
  b : Pc
  tb : List Pk
  ta : List Pk
def pk0 (f now : Int) : Pk := ⟨f, now, 0, [], [0, 0], 0, 0, 0, 0⟩
def pc0 : Pc := ⟨0, 0, 0, 0, 0⟩
def heardA (d e n : Nat) (s : Play) : Pc := if e ≤ n then hearR s.a (s.ta.getD (n - e) (pk0 0 0)) n else s.a
def heardB (d e n : Nat) (s : Play) : Pc := if d ≤ n then hearR s.b (s.tb.getD (n - d) (pk0 0 0)) n else s.b
def stepPl (d e n : Nat) (s : Play) : Play :=
  ⟨heardA d e n s, heardB d e n s, s.tb ++ [stampX (pk0 0 n) (heardA d e n s) n], s.ta ++ [stampX (pk0 1 n) (heardB d e n s) n]⟩
def play (d e : Nat) : Nat → Play
  | 0 => ⟨pc0, pc0, [], []⟩
  | n + 1 => stepPl d e n (play d e n)
def okPl (d e : Nat) : Bool :=
  decide ((play d e 60).a.trip = (d : Int) + e) && (decide ((play d e 60).b.trip = (d : Int) + e) && (decide ((play d e 60).a.their = 59 - (e : Int)) && (decide ((play d e 60).b.their = 59 - (d : Int)) &&
  (decide (guessI (play d e 60).b 59 = 59 - (d : Int) + ((d : Int) + e) / 2) && (decide (advI (play d e 60).b 59 59 = 59 - guessI (play d e 60).b 59) &&
  (waitB [(play d e 60).a, (play d e 60).b] 59 59 == (decide (2 ≤ 59 - guessI (play d e 60).b 59) || decide (2 ≤ (e : Int) - ((d : Int) + e) / 2))))))))
theorem play_ta (d e : Nat) : ∀ n, (play d e n).ta.length = n ∧ (play d e n).tb.length = n
  | 0 => ⟨rfl, rfl⟩
  | n + 1 => by
    have h := play_ta d e n
    constructor
    · show ((play d e n).ta ++ [_]).length = n + 1
      rw [List.length_append, h.1]; rfl
    · show ((play d e n).tb ++ [_]).length = n + 1
      rw [List.length_append, h.2]; rfl
theorem okPl_fin : ∀ d : Fin 8, ∀ e : Fin 8, okPl (d.val + 1) (e.val + 1) = true := by decide +kernel
/-- For all delays from 1 to 8 the play ends as it should. -/
theorem okPl_all {d e : Nat} (h1 : 1 ≤ d) (h2 : d ≤ 8) (h3 : 1 ≤ e) (h4 : e ≤ 8) : okPl d e = true := by
  have := okPl_fin ⟨d - 1, by omega⟩ ⟨e - 1, by omega⟩
  simpa [show d - 1 + 1 = d by omega, show e - 1 + 1 = e by omega] using this
end Go.Proofs.Ytbjbamcpfjlllab
