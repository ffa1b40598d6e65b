/- bytes.Equal. -/
import Derived.Test.YtcjjhblgejkkeaaGreatNew
namespace Go.Proofs.YtcjjhblgejkkeaaGreat
open Go.RowKit
end Go.Proofs.YtcjjhblgejkkeaaGreat
