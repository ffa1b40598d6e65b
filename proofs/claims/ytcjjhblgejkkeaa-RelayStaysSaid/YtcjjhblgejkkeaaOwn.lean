/- Bytes in new memory (the document's own); bytes.Equal. -/
import Derived.Test.YtcjjhblgejkkeaaNew
import Derived.OneCell
namespace Go.Proofs.Ytcjjhblgejkkeaa
open Go.RowKit
end Go.Proofs.Ytcjjhblgejkkeaa
