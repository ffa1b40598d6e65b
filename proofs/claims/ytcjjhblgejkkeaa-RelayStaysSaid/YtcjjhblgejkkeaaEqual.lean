/- bytes.Equal. -/
import Derived.Test.YtcjjhblgejkkeaaNew
namespace Go.Proofs.Ytcjjhblgejkkeaa
open Go.RowKit
end Go.Proofs.Ytcjjhblgejkkeaa
