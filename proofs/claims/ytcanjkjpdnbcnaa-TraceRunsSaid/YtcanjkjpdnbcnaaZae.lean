/-
  Nothing of the shelf is wanted here.
-/
import Derived.Test.YtcanjkjpdnbcnaaChecked
import Derived.ProofKit
import Derived.Lib.Hide
import Derived.Lib.ItoaMem
namespace Go.Proofs.Ytcanjkjpdnbcnaa
end Go.Proofs.Ytcanjkjpdnbcnaa
