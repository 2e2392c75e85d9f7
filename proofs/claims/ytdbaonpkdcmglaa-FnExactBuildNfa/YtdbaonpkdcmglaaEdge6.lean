/- The edges of a pattern, plain, and edges in memory of one's own. -/
import Derived.Test.YtdbaonpkdcmglaaI6cG
namespace Go.Proofs.Ytdbaonpkdcmglaa
open Go.RowKit

def frI (x y : Int) : Ed := (x, y, true, false, 0)
def thnE (k f s : Int) : List Ed := [frI (2 * k) (2 * f), frI (2 * f + 1) (2 * s), frI (2 * s + 1) (2 * k + 1)]
def altE (k f s : Int) : List Ed := [frI (2 * k) (2 * f), frI (2 * k) (2 * s), frI (2 * f + 1) (2 * k + 1), frI (2 * s + 1) (2 * k + 1)]
def strE (k f : Int) : List Ed := [frI (2 * k) (2 * k + 1), frI (2 * k) (2 * f), frI (2 * f + 1) (2 * k + 1), frI (2 * f + 1) (2 * f)]
/-- The edges of a tree whose first cell has the number k. -/
def Re.edi : Re → Int → List Ed
  | .non, _ => []
  | .emp, k => [frI (2 * k) (2 * k + 1)]
  | .one n, k => [(2 * k, 2 * k + 1, false, false, n)]
  | .any, k => [(2 * k, 2 * k + 1, false, true, 0)]
  | .thn a b, k => thnE k (k + 1) (k + 1 + (a.cells.length : Int)) ++ a.edi (k + 1) ++ b.edi (k + 1 + (a.cells.length : Int))
  | .alt a b, k => altE k (k + 1) (k + 1 + (a.cells.length : Int)) ++ a.edi (k + 1) ++ b.edi (k + 1 + (a.cells.length : Int))
  | .str a, k => strE k (k + 1) ++ a.edi (k + 1)
theorem edi_len (t : Re) : ∀ k, (t.edi k).length ≤ 4 * t.cells.length := by
  induction t with
  | thn a b ha hb => intro k; have h1 := ha (k + 1); have h2 := hb (k + 1 + (a.cells.length : Int)); simp only [Re.edi, thnE, Re.cells, List.length_cons, List.length_append, List.length_nil]; omega
  | alt a b ha hb => intro k; have h1 := ha (k + 1); have h2 := hb (k + 1 + (a.cells.length : Int)); simp only [Re.edi, altE, Re.cells, List.length_cons, List.length_append, List.length_nil]; omega
  | str a ha => intro k; have h1 := ha (k + 1); simp only [Re.edi, strE, Re.cells, List.length_cons, List.length_append, List.length_nil]; omega
  | _ => intro k; simp [Re.edi, Re.cells]
/-- Edges' cells as an array. -/
def gArr (L : List Ed) : Array Value := (gcells L).toArray
theorem ownLitG (base : Nat) (L : List Ed) (w : World) (hb : base ≤ w.heap.size) (hl : L.length ≤ 1000) : OwnG base (.slice (some ⟨w.heap.size, 0, none⟩) L.length L.length) L (w.alloc (.cells (gArr L) 103)) := by
  have := World.ownsRow_lit (e := 103) (size := 5) w (gArr L) L.length hb (by unfold maxLen; omega) (by simp [gArr, gc_len])
  unfold OwnG
  simpa [gArr] using this
theorem lo_srcG {base : Nat} {a : Option Addr} {L : List Ed} {c : Nat} {M : World} (h : OwnG base (.slice a L.length c) L M) {M' : World} (hb : Below M.heap.size M M') : SrcG a L c M' := by
  obtain ⟨a', c', e, hs⟩ := SrcG.own h
  simp only [Value.slice.injEq, true_and] at e
  obtain ⟨rfl, rfl⟩ := e
  exact hs.below hb
theorem boxG (M : World) (n : Nat) (o : Obj) : Below M.heap.size M ((M.drewN n).alloc o) := below_step (below_drewN (Below.refl _ _) n) (show Below (M.drewN n).heap.size (M.drewN n) _ from below_box (Below.refl _ _))
end Go.Proofs.Ytdbaonpkdcmglaa
