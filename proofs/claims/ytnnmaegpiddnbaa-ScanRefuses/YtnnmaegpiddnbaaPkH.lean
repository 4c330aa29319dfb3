/- The contract of package pack's Pack where it packs, over this seat's translation. Conditions: rows that lie apart; n of at most 49152; at most 20 lanes, in a slice apart from the arena; room for n words; the log has at most 200 million events. -/
import Derived.Test.YtnnmaegpiddnbaaPkG
import Derived.Test.YtnnmaegpiddnbaaArE
namespace Go.Proofs.Ytnnmaegpiddnbaa
open Go.RowKit

theorem Lz.lns {w : World} {F : Nat → Prop} {ad : Option Addr} {cap : Nat} {zs : List Int} {ls : List Nat} (l : Lz w F ad cap zs) (hz : zs = ls.map (fun (L : Nat) => (L : Int))) : Lns w F ad ls := fun j hj => by
  subst hz
  rcases l with ⟨_, _, h⟩ | ⟨b, h1, h2, h3, h4⟩
  · have := congrArg List.length h; simp at this; subst this; simp at hj
  · have := h4 j (by simpa using hj)
    simp [hj] at this
    exact ⟨b, h1, h3, this⟩
end Go.Proofs.Ytnnmaegpiddnbaa
