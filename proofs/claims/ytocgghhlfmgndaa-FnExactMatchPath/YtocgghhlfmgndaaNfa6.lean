/- Good machines, plain. -/
import Derived.Test.YtocgghhlfmgndaaMemG
import Derived.Test.YtocgghhlfmgndaaMut4
namespace Go.Proofs.Ytocgghhlfmgndaa

def stB (s x : Int) : Bool := decide (0 ≤ x ∧ x < s)
def glB (f a : Bool) (n : Int) : Bool := if f || a then (f != a && n == 0) else inB n 1 65535
def edB (s : Int) (e : Ed) : Bool := stB s e.1 && stB s e.2.1 && glB e.2.2.1 e.2.2.2.1 e.2.2.2.2
def ghB (s st en : Int) (n : Nat) : Bool := decide (s ≤ 80) && stB s st && stB s en && decide (n ≤ 200)
def gnB (s st en : Int) (L : List Ed) : Bool := ghB s st en L.length && L.all (edB s)
theorem gn_head {s st en : Int} {L : List Ed} (h : ghB s st en L.length = false) : gnB s st en L = false := by simp [gnB, h]
theorem gn_yes {s st en : Int} {L : List Ed} (h : ghB s st en L.length = true) (k : (L.take L.length).all (edB s) = true) : gnB s st en L = true := by rw [List.take_length] at k; simp [gnB, h, k]
theorem gn_no {s st en : Int} {L : List Ed} {k : Nat} (hk : k < L.length) (h : edB s (gAt L k) = false) : gnB s st en L = false := by
  have : L.all (edB s) = false := by
    rw [Bool.eq_false_iff]
    intro e
    rw [List.all_eq_true] at e
    rw [e _ (gAt_mem hk)] at h
    exact Bool.noConfusion h
  simp [gnB, this]
theorem stB_t {s x : Int} (h : stB s x = true) : 0 ≤ x ∧ x < s := by simpa [stB] using h
theorem stB_f {s x : Int} (h : stB s x = false) : x < 0 ∨ s ≤ x := by
  simp only [stB, decide_eq_false_iff_not] at h
  omega
end Go.Proofs.Ytocgghhlfmgndaa
