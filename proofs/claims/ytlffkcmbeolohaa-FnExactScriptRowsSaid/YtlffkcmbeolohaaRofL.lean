/-
  The law on RowsOf. Numbers of 64 bits.
-/
import Derived.Test.YtlffkcmbeolohaaRof
import Derived.Test.YtlffkcmbeolohaaRatL
namespace Go.Proofs.Ytlffkcmbeolohaa
open Go.RowKit
set_option linter.all false
theorem OwnRR.ch {A B C : Nat} {w w' : World} {v : Value} {X : Rowi} (h : OwnRR w B C v X) (hc : IntCh A B w w') : OwnRR w' B C v X := by
  obtain ⟨hC, hg, us, ⟨hl, T, h0, hm, hT, hr⟩, ho⟩ := h
  have hsame : ∀ b, B ≤ b → b < C → w'.heap[b]? = w.heap[b]? := fun b hb hbC => hc.2.1 b hb (by omega)
  refine ⟨Nat.le_trans hC hc.1.size, hg, us, ⟨hl, T, h0, hm, hT, fun j h1 h2 => (hr j h1 h2).same fun _ b hb1 hb2 _ => hsame b ?_ ?_⟩, ?_⟩
  · have := hm 0 j (Nat.zero_le _); omega
  · have := hm (j + 1) X.length (by omega); omega
  · have hbB : ∀ g, v.ownBlock = some g → B ≤ g := fun g e => (ho.lt g e).1
    exact ownsRow_far ho fun g e => hsame g (hbB g e) (hg g e)
end Go.Proofs.Ytlffkcmbeolohaa
