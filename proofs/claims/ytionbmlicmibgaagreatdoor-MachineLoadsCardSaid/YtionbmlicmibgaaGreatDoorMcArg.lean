import Derived.Test.YtionbmlicmibgaaGreatDoorSpArg
import Derived.Test.YtionbmlicmibgaaGreatDoorRows
import Derived.Test.YtionbmlicmibgaaGreatDoorMcChk
set_option linter.unusedVariables false
set_option linter.unusedSimpArgs false
namespace Go.Proofs.YtionbmlicmibgaaGreatDoor
open Go.RowKit Go.Deep Go.ChangeShapes
structure Dm where
 op : Int
 k : Int
 se : Int
 sq : Int
 a : Int
 p1 : Option Addr
 n1 : Nat
 d1 : Nat
 p2 : Option Addr
 n2 : Nat
 d2 : Nat
 tm : Int
 ei : Int
 et : Int
 p3 : Option Addr
 n3 : Nat
 d3 : Nat
 sp : List Sp
 vo : List Int
 bp : List UInt8
instance : Inhabited Dm := ⟨⟨0, 0, 0, 0, 0, none, 0, 0, none, 0, 0, 0, 0, 0, none, 0, 0, [], [], []⟩⟩
end Go.Proofs.YtionbmlicmibgaaGreatDoor
