/- What keeps a voter from being one, what keeps a vote from being one, as data; which choice stands where. -/
import Derived.Test.YtdnjckeajfbmfaaZa
import Derived.Test.YtdnjckeajfbmfaaZb
import Derived.Test.YtdnjckeajfbmfaaTxA
import Derived.Test.YtdnjckeajfbmfaaRu
namespace Go.Proofs.Ytdnjckeajfbmfaa
open Go.RowKit Go.Maps Go.WideMaps

/-- What CastFor and ChooseFor tell: a code, a vote, a voter. -/
structure Vr where
  c : Int
  v : Vo
  k : Int
  l : Int
  ms : List Mb
def vrBad (c : Int) : Vr := ⟨c, V0, 0, 0, []⟩
def newR (k : Int) : Vr := if inB k 1 999 = true then ⟨0, V0, k, 0, []⟩ else vrBad 3

end Go.Proofs.Ytdnjckeajfbmfaa
