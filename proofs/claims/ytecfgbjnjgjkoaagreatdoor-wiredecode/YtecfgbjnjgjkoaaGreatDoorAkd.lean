/- An Ask of a script. -/
import Derived.Test.YtecfgbjnjgjkoaaGreatDoorAka
import Derived.Test.YtecfgbjnjgjkoaaGreatDoorHvt
namespace Go.Proofs.YtecfgbjnjgjkoaaGreatDoor
open Go.ChangeShapes Go.WideShapes Go.ChangeAt Go.RowKit
set_option linter.unusedVariables false
set_option linter.unusedSimpArgs false
set_option maxRecDepth 20000
set_option maxHeartbeats 4000000

/-- an Ask of a script -/
structure AkD where
  K : Int
  da : Option Addr
  dn : Nat
  dc : Nat
  dl : List Nat
  la : Option Addr
  lc : Nat
  L : List (List Nat)
  d : Nat
  x : Tr d
  r0 : Value
  r1 : Value
  r2 : Value
  r3 : Value
structure AkOk (w : World) (b o : Nat) (x : AkD) : Prop where
  c0 : w.cell? ⟨b, o, none⟩ = some (.int .i64 x.K)
  c1 : w.cell? ⟨b, o + 1, none⟩ = some (.slice x.da x.dn x.dc)
  c2 : w.cell? ⟨b, o + 2, none⟩ = some (.slice x.la x.L.length x.lc)
  c3 : w.cell? ⟨b, o + 3, none⟩ = some x.r0
  c4 : w.cell? ⟨b, o + 4, none⟩ = some x.r1
  c5 : w.cell? ⟨b, o + 5, none⟩ = some x.r2
  c6 : w.cell? ⟨b, o + 6, none⟩ = some x.r3
  args : ArgsW w x.la x.L
  small : ∀ T ∈ x.L, Small T
  rep : RpAt w x.d x.x x.r0 x.r1 x.r2 x.r3
  dl : x.dn = x.dl.length ∧ Bytes w x.da x.dl ∧ Small x.dl
  dn : x.dn ≤ 140737488351232
  dcp : x.dn ≤ x.dc ∧ x.dc ≤ 9223372036854775807
  ln : x.L.length ≤ 140737488351232
def Script8 (w : World) (a : Option Addr) (N : Nat) : Prop := N ≤ 140737488351232 ∧ (N = 0 ∨ ∃ b off, a = some ⟨b, off, none⟩ ∧ b < w.heap.size ∧ ∀ k, k < N → ∃ x, AkOk w b (off + k * 7) x)
def bookC : Array Value := #[.slice none 0 0, .slice none 0 0, .int .i64 0, .slice none 0 0, .slice none 0 0, .int .i64 0, .slice none 0 0, .slice none 0 0, .int .i64 0, .slice none 0 0, .slice none 0 0, .int .i64 0, .slice none 0 0, .slice none 0 0, .int .i64 0, .slice none 0 0, .slice none 0 0, .int .i64 0, .slice none 0 0, .slice none 0 0, .int .i64 0, .slice none 0 0, .slice none 0 0, .int .i64 0, .slice none 0 0, .slice none 0 0, .int .i64 0, .slice none 0 0, .slice none 0 0, .int .i64 0, .int .i64 0, .int .i64 0, .int .i64 0]
end Go.Proofs.YtecfgbjnjgjkoaaGreatDoor
