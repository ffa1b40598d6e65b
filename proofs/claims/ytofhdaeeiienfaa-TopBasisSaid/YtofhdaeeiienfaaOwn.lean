/- Bytes in new memory (the document's own); bytes.Equal. -/
import Derived.Test.YtofhdaeeiienfaaNew
import Derived.OneCell
namespace Go.Proofs.Ytofhdaeeiienfaa
open Go.RowKit
end Go.Proofs.Ytofhdaeeiienfaa
